/- Clear, in the document's answer. -/
import Derived.Test.YtpejnkngmnabfaiQ9
namespace Go.Proofs.Ytpejnkngmnabfai
open Go.RowKit Go.Shelf

theorem nat_getD (wn : List Nat) (p : Nat) : (wn.map fun x : Nat => (x : Int)).getD p 0 = ((wn.getD p 0 : Nat) : Int) := by
  rw [List.getD_eq_getElem?_getD, List.getElem?_map, List.getD_eq_getElem?_getD]
  cases wn[p]? <;> rfl
theorem nat_set (wn : List Nat) (p s : Nat) : (wn.map fun x : Nat => (x : Int)).set p ((s : Int) + 1) = (wn.set p (s + 1)).map fun x : Nat => (x : Int) := by
  rw [List.map_set]; rfl
/-- A sign's cell lies in no row of numbers that is full. -/
theorem cell_kind {w : World} {B G n bs o : Nat} {l : List Int} {s : Bool} (h : w.ownsRow B 3 1 (.slice (some ⟨G, 0, none⟩) n n) n (ints l)) (e : bs = G) (hc : w.cell? ⟨bs, o, none⟩ = some (.bool s)) : False := by
  subst e
  have h1 := row_cells h
  rw [cells_at h1, List.getElem?_toArray, ints, List.getElem?_map] at hc
  cases hx : l[o]? with
  | none => rw [hx] at hc; cases hc
  | some z => rw [hx] at hc; cases hc
def dkT (n : Nat) (lv : List Nat) (p : Nat) : List Bool := (List.range n).map fun x => if x < p then decide (0 < lv.getD x 0) else false
theorem dkT_zero (n : Nat) (lv : List Nat) : dkT n lv 0 = List.replicate n false := by
  unfold dkT
  rw [show List.replicate n false = (List.range n).map fun _ => false by simp [List.map_const']]
  exact rmap_ext fun x _ => if_neg (Nat.not_lt_zero x)
theorem dkT_all (n : Nat) (lv : List Nat) : dkT n lv n = dkL n lv := rmap_ext fun _ hx => if_pos hx
theorem dkT_next (n : Nat) (lv : List Nat) (p : Nat) : dkT n lv (p + 1) = (dkT n lv p).set p (decide (0 < lv.getD p 0)) := by
  unfold dkT
  rw [rmap_set]
  refine rmap_ext fun x _ => ?_
  by_cases e : x = p
  · rw [if_pos e]; subst e; rw [if_pos (by omega)]
  · rw [if_neg e]
    by_cases h : x < p
    · rw [if_pos h, if_pos (by omega)]
    · rw [if_neg h, if_neg (by omega)]
/-- What the document answers. -/
def ClearOfO (P : Int) (cz : List (Int × Int)) (F : Int) (st : List Bool) (L : Nat) (lv : List Nat) (w : World) (e : Ending) (w' : World) : Prop :=
  ((sizeB P cz st = false ∧ e = .returned (.tuple #[.slice none 0 0, .slice none 0 0, .int .i64 2])) ∨ (sizeB P cz st = true ∧ rangeB P.toNat cz F = false ∧ e = .returned (.tuple #[.slice none 0 0, .slice none 0 0, .int .i64 4])) ∨ (sizeB P cz st = true ∧ rangeB P.toNat cz F = true ∧ ∃ (n f : Nat) (cs : List CutM) (SB D : Nat), P = (n : Int) ∧ F = (f : Int) ∧ cz = cs.map castC ∧ e = .returned (.tuple #[.slice (some ⟨SB, 0, none⟩) L L, .slice (some ⟨D, 0, none⟩) n n, .int .i64 0]) ∧ StepsAt w' w.heap.size (.slice (some ⟨SB, 0, none⟩) L L) (stepsL lv cs st L) ∧ w'.ownsRow w.heap.size 4 1 (.slice (some ⟨D, 0, none⟩) n n) n ((dkL n lv).map Value.bool))) ∧ Below w.heap.size w w'
set_option maxRecDepth 100000 in
set_option maxHeartbeats 4000000 in
theorem ClearOf_any (P : Int) (cz : List (Int × Int)) (F : Int) (st : List Bool) (v v2 : Value) (w : World) (hr : RowAt w v cz.length 2 (cz.flatMap cellsZ)) (hrs : RowAt w v2 st.length 1 (st.map Value.bool)) (hl : cz.length ≤ 2000000) (hls : st.length ≤ 2000000) (L : Nat) (lv : List Nat)
    (hG : ∀ (n f : Nat) (cs : List CutM), sizeB P cz st = true → rangeB P.toNat cz F = true → P = (n : Int) → F = (f : Int) → cz = cs.map castC → Lev n f cs st L L lv) :
    Calls Try.prog 14 #[.int .i64 P, v, .int .i64 F, v2] w (ClearOfO P cz F st L lv w) := by
  have HWO : Hid (∀ e w', ((sizeB P cz st = false ∧ e = .returned (.tuple #[.slice none 0 0, .slice none 0 0, .int .i64 2])) ∨ (sizeB P cz st = true ∧ rangeB P.toNat cz F = false ∧ e = .returned (.tuple #[.slice none 0 0, .slice none 0 0, .int .i64 4])) ∨ (sizeB P cz st = true ∧ rangeB P.toNat cz F = true ∧ ∃ (n f : Nat) (cs : List CutM) (SB D : Nat), P = (n : Int) ∧ F = (f : Int) ∧ cz = cs.map castC ∧ e = .returned (.tuple #[.slice (some ⟨SB, 0, none⟩) L L, .slice (some ⟨D, 0, none⟩) n n, .int .i64 0]) ∧ StepsAt w' w.heap.size (.slice (some ⟨SB, 0, none⟩) L L) (stepsL lv cs st L) ∧ w'.ownsRow w.heap.size 4 1 (.slice (some ⟨D, 0, none⟩) n n) n ((dkL n lv).map Value.bool))) ∧ Below w.heap.size w w' → ClearOfO P cz F st L lv w e w') := fun _ _ h => h
  obtain ⟨R, hR⟩ : ∃ R, R = ClearOfO P cz F st L lv w := ⟨_, rfl⟩
  rw [← hR] at HWO ⊢
  clear hR
  obtain ⟨i4, hi4, h40, h41, h42⟩ := info_parts Try.info4
  obtain ⟨i3, hi3, h30, h31, h32⟩ := info_parts Try.info3
  obtain ⟨i22, hi22, h220, h221, h222⟩ := info_parts Try.info22
  have HG := hide' hG
  have HR := hide' hr
  have HRS := hide' hrs
  obtain ⟨a, cap, rfl⟩ := rowAt_slice hr
  obtain ⟨b, capb, rfl⟩ := rowAt_slice hrs
  have HSB : Hid (sizeB P cz st = ((decide (1 ≤ P) && decide (P ≤ 12)) && (decide (cz.length ≤ 20) && decide (st.length = cz.length)))) := rfl
  obtain ⟨m, hm⟩ : ∃ m, m = cz.length := ⟨_, rfl⟩
  obtain ⟨q, hq⟩ : ∃ m, m = st.length := ⟨_, rfl⟩
  have HM := hide' hm
  have HQ := hide' hq
  have HI1 := hide' (inBounds_any P 1 12 w)
  rw [← hm, ← hq] at HSB ⊢
  rw [← hm] at hl
  rw [← hq] at hls
  clear hr hrs hm hq hG
  by_cases h1 : 1 ≤ P ∧ P ≤ 12
  rotate_left
  · have HSZ : Hid (sizeB P cz st = false) := by
      show _ = _
      rw [HSB.out]
      have : (decide (1 ≤ P) && decide (P ≤ 12)) = false := by simp; omega
      rw [this]; rfl
    have hi : (decide (1 ≤ P) && decide (P ≤ 12)) = false := by simp; omega
    rw [hi] at HI1
    clear hi h1
    go_enter Try.func14, Try.ntmps14
    go_wp2_with fail
    refine HI1.out.mono ?_
    rintro e w1 ⟨rfl, hw1⟩
    obtain rfl := hw1.symm
    go_wp2
    refine bodyPost_ret (results_tmp3 rfl _ _ _) rfl ?_
    exact HWO.out _ _ ⟨.inl ⟨HSZ.out, rfl⟩, Below.refl _ _⟩
  have hi : (decide (1 ≤ P) && decide (P ≤ 12)) = true := by simp; omega
  rw [hi] at HI1
  clear hi
  by_cases h3 : 20 < m
  · have HSZ : Hid (sizeB P cz st = false) := by show _ = _; rw [HSB.out]; simp; omega
    go_enter Try.func14, Try.ntmps14
    go_wp2_with fail
    refine HI1.out.mono ?_
    rintro e w1 ⟨rfl, hw1⟩
    obtain rfl := hw1.symm
    go_wp2
    refine bodyPost_ret (results_tmp3 rfl _ _ _) rfl ?_
    exact HWO.out _ _ ⟨.inl ⟨HSZ.out, rfl⟩, Below.refl _ _⟩
  by_cases h4 : q = m
  rotate_left
  · have HSZ : Hid (sizeB P cz st = false) := by show _ = _; rw [HSB.out]; simp; omega
    have hne : ((q : Int) != (m : Int)) = true := by simp; omega
    go_enter Try.func14, Try.ntmps14
    go_wp2_with fail
    refine HI1.out.mono ?_
    rintro e w1 ⟨rfl, hw1⟩
    obtain rfl := hw1.symm
    go_wp2
    refine bodyPost_ret (results_tmp3 rfl _ _ _) rfl ?_
    exact HWO.out _ _ ⟨.inl ⟨HSZ.out, rfl⟩, Below.refl _ _⟩
  subst h4
  obtain ⟨n, rfl⟩ : ∃ n : Nat, P = (n : Int) := ⟨P.toNat, by omega⟩
  have HSZ : Hid (sizeB (n : Int) cz st = true) := by show _ = _; rw [HSB.out]; simp; omega
  have HI2 : Hid (∀ w', Calls Try.prog 21 #[.int .i64 F, .int .i64 0, .int .i64 ((n : Int) - 1)] w' fun e w2 => e = .returned (.bool (inP n F)) ∧ w2 = w') := fun w' => inBounds_any F 0 _ w'
  have hwn : IntKind.i64.wrap ((n : Int) - 1) = (n : Int) - 1 := Go.IntWalk.i64_in _ (by omega)
  have HFB : Hid (inP n F = false → rangeB ((n : Int).toNat) cz F = false) := fun h => by rw [Int.toNat_natCast]; unfold rangeB; rw [h, Bool.and_false]
  obtain ⟨fb, hfb⟩ : ∃ x, x = inP n F := ⟨_, rfl⟩
  have HFF := hide' hfb
  rw [← hfb] at HI2 HFB
  have HI2w := hide' (HI2.out w)
  clear hfb HI2 HSB
  go_enter Try.func14, Try.ntmps14
  go_wp2_with fail
  refine HI1.out.mono ?_
  rintro e w1 ⟨rfl, hw1⟩
  obtain rfl := hw1.symm
  go_wp2_with fail
  refine HI2w.out.mono ?_
  rintro e w1 ⟨rfl, hw1⟩
  obtain rfl := hw1.symm
  cases fb with
  | false =>
    have HNO := hide' (HFB.out rfl)
    go_wp2
    refine bodyPost_ret (results_tmp3 rfl _ _ _) rfl ?_
    exact HWO.out _ _ ⟨.inr (.inl ⟨HSZ.out, HNO.out, rfl⟩), Below.refl _ _⟩
  | true =>
    clear HI1 HI2w HFB
    go_upto_block 0 with fail
    go_cut [11] from 44 to 82 (fun _a wc => Hid (placedB n cz = true) ∧ Hid (Below w.heap.size w wc))
    case first =>
      go_wp2_with fail
      go_loopw [11] (fun i wr => ∃ (k : Nat), i = .int .i64 k ∧ k ≤ q ∧ Hid (∀ j c, cz[j]? = some c → j < k → cutB n c = true) ∧ Hid (Below w.heap.size w wr)) (fun i _ => q - (intOf i).toNat)
      case atStart => exact ⟨0, rfl, Nat.zero_le _, fun j _ _ h => absurd h (Nat.not_lt_zero j), Below.refl _ w⟩
      case round =>
        obtain ⟨k, rfl, hk, HOK, HBE⟩ := hrel
        by_cases hlt : k < q
        · have hlc : k < cz.length := by rw [← HM.out]; exact hlt
          obtain ⟨bt, ot, ct', ex, hbt, hct⟩ := row_elem (f := cellsZ) (xs := cz) (fun _ => rfl) HR.out k hlc (by decide)
          cases ex
          have HK : Hid (cz[k]? = some cz[k]) := List.getElem?_eq_getElem hlc
          have HBAD : Hid (cutB n cz[k] = false → rangeB ((n : Int).toNat) cz F = false) := fun h => by
            rw [Int.toNat_natCast]
            unfold rangeB placedB
            rw [show cz.all (cutB n) = false from List.all_eq_false.2 ⟨cz[k], List.getElem_mem hlc, by rw [h]; decide⟩]
            rfl
          have HNEXT : Hid (cutB n cz[k] = true → ∀ j c, cz[j]? = some c → j < k + 1 → cutB n c = true) := fun h j c hj hjk => by
            by_cases e : j = k
            · subst e; rw [HK.out] at hj; cases hj; exact h
            · exact HOK.out j c hj (by omega)
          obtain ⟨u, hu⟩ : ∃ u, u = cz[k] := ⟨_, rfl⟩
          rw [← hu] at hct HBAD HNEXT
          have d0 := up_cell HBE.out (hct 0 _ rfl)
          have d1 := up_cell HBE.out (hct 1 _ rfl)
          rw [Nat.add_zero] at d0
          have HBD : Hid (∀ z, Below w.heap.size w (wr.drewN z)) := fun z => below_drewN HBE.out z
          obtain ⟨x, y⟩ := u
          dsimp only at d0 d1
          have HCB : Hid (cutB n (x, y) = (inP n x && (inP n y && !(x == y)))) := rfl
          rw [HCB.out] at HBAD HNEXT
          have HUX : Hid (∀ z, Calls Try.prog 21 #[.int .i64 x, .int .i64 0, .int .i64 ((n : Int) - 1)] (wr.drewN z) fun e w' => e = .returned (.bool (inP n x)) ∧ w' = wr.drewN z) := fun z => inBounds_any x 0 _ _
          have HUY : Hid (∀ z, Calls Try.prog 21 #[.int .i64 y, .int .i64 0, .int .i64 ((n : Int) - 1)] (wr.drewN z) fun e w' => e = .returned (.bool (inP n y)) ∧ w' = wr.drewN z) := fun z => inBounds_any y 0 _ _
          have HXI : Hid (∀ z, z = x → inP n x = inP n z) := fun z h => by rw [h]
          obtain ⟨p, hp⟩ : ∃ p, p = inP n x := ⟨_, rfl⟩
          obtain ⟨r, hr⟩ : ∃ r, r = inP n y := ⟨_, rfl⟩
          rw [← hp] at HUX HBAD HNEXT
          rw [← hr] at HUY HBAD HNEXT
          have HPX := hide' hp
          have HPY := hide' hr
          clear hct hu hbt HOK HK HBE HCB hp hr HXI
          by_cases hxy : x = y
          · subst hxy
            have hpr : p = r := by rw [HPX.out, HPY.out]
            subst hpr
            have HNO := hide' (HBAD.out (by simp))
            have heq : (x == x) = true := by simp
            cases p
            all_goals
              go_wp2_with fail
              go_quiet ((go_at_call 21; (with_reducible exact Calls.quiet_of_same (HUX.out _))))
              go_wp2
              refine bodyPost_ret (results_tmp3 rfl _ _ _) rfl ?_
              exact HWO.out _ _ ⟨.inr (.inl ⟨HSZ.out, HNO.out, rfl⟩), HBD.out _⟩
          have heq : (x == y) = false := by simp [hxy]
          cases p with
          | false =>
            have HNO := hide' (HBAD.out rfl)
            go_wp2_with fail
            go_quiet ((go_at_call 21; first | (with_reducible exact Calls.quiet_of_same (HUX.out _)) | (with_reducible exact Calls.quiet_of_same (HUY.out _))))
            go_wp2
            refine bodyPost_ret (results_tmp3 rfl _ _ _) rfl ?_
            exact HWO.out _ _ ⟨.inr (.inl ⟨HSZ.out, HNO.out, rfl⟩), HBD.out _⟩
          | true =>
            cases r with
            | false =>
              have HNO := hide' (HBAD.out rfl)
              go_wp2_with fail
              go_quiet ((go_at_call 21; first | (with_reducible exact Calls.quiet_of_same (HUX.out _)) | (with_reducible exact Calls.quiet_of_same (HUY.out _))))
              go_wp2
              refine bodyPost_ret (results_tmp3 rfl _ _ _) rfl ?_
              exact HWO.out _ _ ⟨.inr (.inl ⟨HSZ.out, HNO.out, rfl⟩), HBD.out _⟩
            | true =>
              have HY := hide' (HNEXT.out (by rw [heq]; rfl))
              clear HNEXT HBAD
              go_wp2_with fail
              go_quiet ((go_at_call 21; first | (with_reducible exact Calls.quiet_of_same (HUX.out _)) | (with_reducible exact Calls.quiet_of_same (HUY.out _))))
              go_wp2
              go_roundw
              case rel => exact ⟨k + 1, by go_num, by omega, HY, HBD.out _⟩
              case measure => simp [intOf]; omega
        · have HALL : Hid (placedB n cz = true) := by
            show _ = _
            unfold placedB
            rw [List.all_eq_true]
            intro c hc
            obtain ⟨j, hj, rfl⟩ := List.mem_iff_getElem.1 hc
            exact HOK.out j _ (List.getElem?_eq_getElem hj) (by rw [← HM.out] at hj; omega)
          go_wp2
          go_meet
          case rel => exact ⟨HALL, HBE⟩
    case rest =>
      obtain ⟨HPB, HBC⟩ := hcut
      obtain ⟨cs, hcz, hpl⟩ := placed_nat HPB.out
      have hF := inP_iff.1 HFF.out.symm
      obtain ⟨f, rfl⟩ : ∃ f : Nat, F = (f : Int) := ⟨F.toNat, by omega⟩
      have hfn : f < n := by omega
      have HRB : Hid (rangeB ((n : Int).toNat) cz (f : Int) = true) := by show _ = _; rw [Int.toNat_natCast]; unfold rangeB; rw [HPB.out, ← HFF.out]; rfl
      have HL := hide' (HG.out n f cs HSZ.out HRB.out rfl rfl hcz)
      have HPL := hide' hpl
      have HCZ := hide' hcz
      have hqc : q = cs.length := by rw [HM.out, hcz, List.length_map]
      have HQC := hide' hqc
      have HCA : Hid (∀ (k : Nat), k < q → ∃ (bt ot : Nat), a = some ⟨bt, ot, none⟩ ∧ w.cell? ⟨bt, ot + k * 2, none⟩ = some (.int .i64 ((cs.getD k (0, 0)).1 : Int)) ∧ w.cell? ⟨bt, ot + k * 2 + 1, none⟩ = some (.int .i64 ((cs.getD k (0, 0)).2 : Int))) := fun k hk => by
        have hkc : k < cs.length := by rw [← HQC.out]; exact hk
        have h1 := HR.out
        rw [HCZ.out, cells_cast, List.length_map, ← HQC.out] at h1
        obtain ⟨bt, ot, ct', ex, hbt, hct⟩ := row_elem (f := CutM.cells) (xs := cs) (fun _ => rfl) h1 k hkc (by decide)
        simp only [Value.slice.injEq] at ex
        have hgk : cs[k] = cs.getD k (0, 0) := by rw [List.getD_eq_getElem?_getD, List.getElem?_eq_getElem hkc]; rfl
        rw [hgk] at hct
        exact ⟨bt, ot, ex.1, hct 0 _ rfl, hct 1 _ rfl⟩
      have HSA : Hid (∀ (k : Nat), k < q → ∃ (bs os : Nat), b = some ⟨bs, os, none⟩ ∧ w.cell? ⟨bs, os + k, none⟩ = some (.bool (st.getD k false))) := fun k hk => by
        have h1 := HRS.out
        rw [← HQ.out] at h1
        obtain ⟨bs, os, c, ex, hcs⟩ := bool_cell2 h1 k hk
        simp only [Value.slice.injEq] at ex
        exact ⟨bs, os, ex.1, hcs⟩
      have hLn := HL.out.small
      clear hcz hpl hF hqc HFF HPB HG
      obtain ⟨w1, hw1⟩ : ∃ z, z = wc := ⟨_, rfl⟩
      rw [← hw1] at HBC ⊢
      clear hw1
      go_wp2_with (at_make; refine wpList_make_full _ rfl _ _ 22 rfl w1.heap.size 3 i3 (.int .i64 0) 1 Try.underlying22 hi3 h30 h31 .i64 .i64 _ _ n rfl rfl rfl rfl (by rw [h32]; omega) (by unfold maxLen; omega) (Nat.le_refl _) ?_; intro w2 hown2 hgr2; refine Still.go ?_)
      unfold Still
      have hb2 : Below w1.heap.size w1 w2 := (Below.refl _ w1).grown hgr2 (Nat.le_refl _) (fun k e => by cases e)
      have HO2 : Hid (w2.ownsRow w.heap.size 3 1 (.slice (some ⟨w1.heap.size, 0, none⟩) n n) n (ints ((List.replicate n 0).map fun x : Nat => (x : Int)))) := by
        rw [made_zero] at hown2
        rw [List.map_replicate, ints, List.map_replicate]
        exact own_base hown2 HBC.out.size
      have HB2 : Hid (Below w.heap.size w w2) := HBC.out.trans (hb2.mono HBC.out.size)
      obtain ⟨cF, fF⟩ := own_int HO2.out (p := f) hfn
      clear hown2 hgr2 hb2
      go_upto_block 2 with fail
      have HW3 := hide' (own_int_set HO2.out (p := f) hfn 1)
      rw [show ((List.replicate n 0).map fun x : Nat => (x : Int)).set f 1 = ((List.replicate n 0).set f 1).map fun x : Nat => (x : Int) by rw [List.map_set]; rfl] at HW3
      have HB3 : Hid (Below w.heap.size w (w2.setCell ⟨w1.heap.size, f, none⟩ (.int .i64 1))) := HB2.out.setCell (p := ⟨w1.heap.size, f, none⟩) HBC.out.size _
      obtain ⟨w3, hw3⟩ : ∃ z, z = w2.setCell ⟨w1.heap.size, f, none⟩ (.int .i64 1) := ⟨_, rfl⟩
      obtain ⟨Wb, hWb⟩ : ∃ z, z = w1.heap.size := ⟨_, rfl⟩
      have HWB : Hid (w.heap.size ≤ Wb) := by show _ ≤ _; rw [hWb]; exact HBC.out.size
      rw [← hw3] at HW3 HB3 ⊢
      rw [← hWb] at HW3 ⊢
      clear hw3 hWb HO2 HB2 cF fF HBC
      have HWH := hide' (Wh.start HL.out hfn)
      go_cut [13, 14] from 88 to 160 (fun v13 _v14 wd => v13 = .int .i64 (L : Int) ∧ Hid (wd.ownsRow w.heap.size 3 1 (.slice (some ⟨Wb, 0, none⟩) n n) n (ints (lv.map fun x : Nat => (x : Int)))) ∧ Hid (Below w.heap.size w wd))
      case first =>
        go_wp2_with fail
        go_loopw [13, 14] (fun v13 v14 wr => ∃ (s last : Nat) (wn : List Nat), v14 = .int .i64 s ∧ v13 = .int .i64 last ∧ 1 ≤ s ∧ s ≤ n + 1 ∧ Hid (Wh n cs st lv s 0 last wn) ∧ Hid (wr.ownsRow w.heap.size 3 1 (.slice (some ⟨Wb, 0, none⟩) n n) n (ints (wn.map fun x : Nat => (x : Int)))) ∧ Hid (Below w.heap.size w wr)) (fun _ v14 _ => n + 1 - (intOf v14).toNat)
        case atStart => exact ⟨1, 1, _, rfl, rfl, Nat.le_refl _, by omega, HWH, HW3, HB3⟩
        case round =>
          clear HWH HW3 HB3
          obtain ⟨s, last, wn, rfl, rfl, hs1, hsn, HWN, HOW, HBR⟩ := hrel
          by_cases hsl : s ≤ n
          · go_wp2_with fail
            go_loopw [13, 15] (fun v13 kv wr => ∃ (k last : Nat) (wn : List Nat), kv = .int .i64 k ∧ v13 = .int .i64 last ∧ k ≤ q ∧ last ≤ 100 ∧ Hid (Wh n cs st lv s k last wn) ∧ Hid (wr.ownsRow w.heap.size 3 1 (.slice (some ⟨Wb, 0, none⟩) n n) n (ints (wn.map fun x : Nat => (x : Int)))) ∧ Hid (Below w.heap.size w wr)) (fun _ kv _ => q - (intOf kv).toNat)
            case atStart => exact ⟨0, last, wn, rfl, rfl, Nat.zero_le _, by obtain ⟨p, _, hp⟩ := HWN.out.has; have := HWN.out.le p; omega, HWN, HOW, HBR⟩
            case round =>
              clear HWN HOW HBR
              obtain ⟨k, last, wn, rfl, rfl, hk, hla, HWN, HOW, HBR⟩ := hrel
              by_cases hkq : k < q
              · have hkc : k < cs.length := by rw [← HQC.out]; exact hkq
                obtain ⟨bt, ot, ha0, hc0, hc1⟩ := HCA.out k hkq
                obtain ⟨bs, os, hb0, hcs⟩ := HSA.out k hkq
                subst ha0
                subst hb0
                obtain ⟨ha, hb, hab⟩ := HPL.out k hkc
                have d0 := up_cell HBR.out hc0
                have d1 := up_cell HBR.out hc1
                have HNX : Hid (st.getD k false = true → (wn.getD (cs.getD k (0, 0)).1 0 = s → wn.getD (cs.getD k (0, 0)).2 0 = 0 → lv.getD (cs.getD k (0, 0)).2 0 = s + 1) ∧ (wn.getD (cs.getD k (0, 0)).2 0 = s → wn.getD (cs.getD k (0, 0)).1 0 = 0 → lv.getD (cs.getD k (0, 0)).1 0 = s + 1)) := fun h => lev_next HL.out HPL.out hs1 HWN.out hkc h
                have HSE : Hid (∀ last' wn', Wh n cs st lv s k last' wn' → (k < cs.length → st.getD k false = true → (lv.getD (cs.getD k (0, 0)).1 0 = s → 0 < wn'.getD (cs.getD k (0, 0)).2 0) ∧ (lv.getD (cs.getD k (0, 0)).2 0 = s → 0 < wn'.getD (cs.getD k (0, 0)).1 0)) → Wh n cs st lv s (k + 1) last' wn') := fun _ _ h1 h2 => h1.seen h2
                obtain ⟨x, hx⟩ : ∃ x, x = (cs.getD k (0, 0)).1 := ⟨_, rfl⟩
                obtain ⟨y, hy⟩ : ∃ y, y = (cs.getD k (0, 0)).2 := ⟨_, rfl⟩
                rw [← hx] at d0 ha
                rw [← hy] at d1 hb
                rw [← hx, ← hy] at hab HNX HSE
                have HSK := hide' hcs
                have HBD : Hid (∀ z, Below w.heap.size w (wr.drewN z)) := fun z => below_drewN HBR.out z
                have HOD : Hid (∀ z, (wr.drewN z).ownsRow w.heap.size 3 1 (.slice (some ⟨Wb, 0, none⟩) n n) n (ints (wn.map fun x : Nat => (x : Int)))) := fun z => own_below HOW.out (below_drewN (Below.refl _ wr) z) (Nat.le_refl _)
                clear hc0 hc1 hcs hx hy HOW HBR
                go_wp2_with fail
                go_quiet (fail)
                have HBN := hide' (HBD.out nq)
                have HON := hide' (HOD.out nq)
                obtain ⟨w4, hw4⟩ : ∃ z, z = wr.drewN nq := ⟨_, rfl⟩
                rw [← hw4] at HBN HON ⊢
                clear hw4 HBD HOD d0 d1
                have ds := up_cell HBN.out HSK.out
                obtain ⟨ca, fa⟩ := own_int HON.out (p := x) ha
                obtain ⟨cb, fb⟩ := own_int HON.out (p := y) hb
                rw [nat_getD] at ca cb
                have HWX := hide' (HWN.out.is hs1 ha)
                have HWY := hide' (HWN.out.is hs1 hb)
                have HLE : Hid (wn.getD x 0 ≤ s + 1 ∧ wn.getD y 0 ≤ s + 1) := ⟨HWN.out.le x, HWN.out.le y⟩
                obtain ⟨sk, hsk⟩ : ∃ z, z = st.getD k false := ⟨_, rfl⟩
                obtain ⟨wa, hwa⟩ : ∃ z, z = wn.getD x 0 := ⟨_, rfl⟩
                obtain ⟨wb, hwb⟩ : ∃ z, z = wn.getD y 0 := ⟨_, rfl⟩
                rw [← hsk] at ds HNX HSE
                rw [← hwa] at ca HNX HWX HLE
                rw [← hwb] at cb HNX HWY HLE
                have HWA := hide' hwa
                have HWBB := hide' hwb
                have hle := HLE.out
                clear hsk hwa hwb HLE HSK
                have hws : IntKind.i64.wrap ((s : Int) + 1) = (s : Int) + 1 := Go.IntWalk.i64_in _ (by omega)
                cases sk with
                | false =>
                  have HN := hide' (HSE.out last wn HWN.out (fun _ h => by cases h))
                  go_wp2
                  go_roundw
                  case rel => exact ⟨k + 1, last, wn, by go_num, rfl, by omega, hla, HN, HON, HBN⟩
                  case measure => simp [intOf]; omega
                | true =>
                  by_cases c1 : wa = s ∧ wb = 0
                  · obtain ⟨c1a, c1b⟩ := c1
                    have hlv := (HNX.out rfl).1 c1a c1b
                    have HPUT := hide' (HWN.out.put hb (by rw [← HWBB.out]; exact c1b) hlv)
                    have hg : ∀ p, (wn.set y (s + 1)).getD p 0 = if p = y then s + 1 else wn.getD p 0 := fun p => nset_getD (by rw [HWN.out.len]; exact hb)
                    have HN := hide' (HSE.out (s + 1) _ HPUT.out (fun _ _ => ⟨fun _ => by rw [hg, if_pos rfl]; omega, fun e => by omega⟩))
                    have HO5 := hide' (own_int_set HON.out (p := y) hb ((s : Int) + 1))
                    rw [nat_set] at HO5
                    have HB5 : Hid (Below w.heap.size w (w4.setCell ⟨Wb, y, none⟩ (.int .i64 ((s : Int) + 1)))) := HBN.out.setCell (p := ⟨Wb, y, none⟩) HWB.out _
                    have ds5 : (w4.setCell ⟨Wb, y, none⟩ (.int .i64 ((s : Int) + 1))).cell? ⟨bs, os + k, none⟩ = some (.bool true) := by
                      have hne : bs ≠ Wb := fun e => by
                        obtain ⟨cur, h1⟩ := own_blk HON.out
                        rw [← e] at h1
                        have h2 := ds
                        have h3 := own_int HON.out (p := y) hb
                        exact cell_kind HON.out e ds
                      exact (World.cell?_of_block (Below.heap_setCell w4 ⟨Wb, y, none⟩ (.int .i64 ((s : Int) + 1)) bs hne)).trans ds
                    obtain ⟨cb5, _⟩ := own_int HO5.out (p := y) hb
                    rw [nat_getD, hg, if_pos rfl] at cb5
                    have e1 : ((wa : Int) == (s : Int)) = true := by simp; omega
                    have e2 : ((wb : Int) == 0) = true := by simp; omega
                    have e3 : (((s + 1 : Nat) : Int) == (s : Int)) = false := by rw [beq_eq_false_iff_ne]; omega
                    subst c1b
                    clear HPUT hg HNX HSE hlv HWX HWY
                    go_wp2
                    go_roundw
                    case rel => exact ⟨k + 1, s + 1, _, by go_num, by go_num, by omega, by omega, HN, HO5, HB5⟩
                    case measure => simp [intOf]; omega
                  · by_cases c2 : wb = s ∧ wa = 0
                    · obtain ⟨c2a, c2b⟩ := c2
                      have hlv := (HNX.out rfl).2 c2a c2b
                      have HPUT := hide' (HWN.out.put ha (by rw [← HWA.out]; exact c2b) hlv)
                      have hg : ∀ p, (wn.set x (s + 1)).getD p 0 = if p = x then s + 1 else wn.getD p 0 := fun p => nset_getD (by rw [HWN.out.len]; exact ha)
                      have HN := hide' (HSE.out (s + 1) _ HPUT.out (fun _ _ => ⟨fun e => by omega, fun _ => by rw [hg, if_pos rfl]; omega⟩))
                      have HO5 := hide' (own_int_set HON.out (p := x) ha ((s : Int) + 1))
                      rw [nat_set] at HO5
                      have HB5 : Hid (Below w.heap.size w (w4.setCell ⟨Wb, x, none⟩ (.int .i64 ((s : Int) + 1)))) := HBN.out.setCell (p := ⟨Wb, x, none⟩) HWB.out _
                      have e1 : ((wa : Int) == (s : Int)) = false := by simp; omega
                      have e2 : ((wb : Int) == (s : Int)) = true := by simp; omega
                      have e3 : ((wa : Int) == 0) = true := by simp; omega
                      clear HPUT hg HNX HSE hlv HWX HWY c1
                      go_wp2
                      go_roundw
                      case rel => exact ⟨k + 1, s + 1, _, by go_num, by go_num, by omega, by omega, HN, HO5, HB5⟩
                      case measure => simp [intOf]; omega
                    · have HN := hide' (HSE.out last wn HWN.out (fun _ _ => ⟨fun e => by have := HWX.out.2 e; rw [← HWBB.out]; omega, fun e => by have := HWY.out.2 e; rw [← HWA.out]; omega⟩))
                      clear HNX HSE HWX HWY
                      by_cases g1 : wa = s
                      · have e1 : ((wa : Int) == (s : Int)) = true := by simp; omega
                        have e2 : ((wb : Int) == 0) = false := by simp; omega
                        by_cases g2 : wb = s
                        · have e3 : ((wb : Int) == (s : Int)) = true := by simp; omega
                          have e4 : ((wa : Int) == 0) = false := by simp; omega
                          clear c1 c2
                          go_wp2
                          go_roundw
                          case rel => exact ⟨k + 1, last, wn, by go_num, rfl, by omega, hla, HN, HON, HBN⟩
                          case measure => simp [intOf]; omega
                        · have e3 : ((wb : Int) == (s : Int)) = false := by simp; omega
                          clear c1 c2
                          go_wp2
                          go_roundw
                          case rel => exact ⟨k + 1, last, wn, by go_num, rfl, by omega, hla, HN, HON, HBN⟩
                          case measure => simp [intOf]; omega
                      · have e1 : ((wa : Int) == (s : Int)) = false := by simp; omega
                        by_cases g2 : wb = s
                        · have e3 : ((wb : Int) == (s : Int)) = true := by simp; omega
                          have e4 : ((wa : Int) == 0) = false := by simp; omega
                          clear c1 c2
                          go_wp2
                          go_roundw
                          case rel => exact ⟨k + 1, last, wn, by go_num, rfl, by omega, hla, HN, HON, HBN⟩
                          case measure => simp [intOf]; omega
                        · have e3 : ((wb : Int) == (s : Int)) = false := by simp; omega
                          clear c1 c2
                          go_wp2
                          go_roundw
                          case rel => exact ⟨k + 1, last, wn, by go_num, rfl, by omega, hla, HN, HON, HBN⟩
                          case measure => simp [intOf]; omega
              · have HN : Hid (Wh n cs st lv (s + 1) 0 last wn) := by
                  have h1 := HWN.out
                  rw [show k = cs.length by rw [← HQC.out]; omega] at h1
                  exact h1.round HL.out hs1
                go_wp2
                go_roundw
                case rel => exact ⟨s + 1, last, wn, by go_num, rfl, by omega, by omega, HN, HOW, HBR⟩
                case measure => simp [intOf]; omega
          · obtain ⟨he1, he2⟩ := HWN.out.all HL.out (by omega)
            rw [he1] at HOW
            have HE2 := hide' he2
            clear he1 he2
            go_wp2
            go_meet
            case rel => exact ⟨by rw [HE2.out], HOW, HBR⟩
      case rest =>
        obtain ⟨rfl, HOW, HBR⟩ := hcut
        obtain ⟨w5, hw5⟩ : ∃ z, z = wc := ⟨_, rfl⟩
        rw [← hw5] at HOW HBR ⊢
        clear hw5
        go_wp2_with (at_make; refine wpList_make_full _ rfl _ _ 31 rfl w5.heap.size 22 i22 (.slice none 0 0) 1 Try.underlying31 hi22 h220 h221 .i64 .i64 _ _ L rfl rfl rfl rfl (by rw [h222]; omega) (by unfold maxLen; omega) (Nat.le_refl _) ?_; intro w6 hown6 hgr6; refine Still.go ?_)
        unfold Still
        have hb6 : Below w5.heap.size w5 w6 := (Below.refl _ w5).grown hgr6 (Nat.le_refl _) (fun k e => by cases e)
        have HS6 : Hid (w6.ownsRow w.heap.size 22 1 (.slice (some ⟨w5.heap.size, 0, none⟩) L L) L (List.replicate L (.slice none 0 0))) := by
          rw [made_nil] at hown6
          exact own_base hown6 HBR.out.size
        have HW6 := hide' (own_below HOW.out hb6 (Nat.le_refl _))
        have HB6 : Hid (Below w.heap.size w w6) := HBR.out.trans (hb6.mono HBR.out.size)
        obtain ⟨SB, hSB⟩ : ∃ z, z = w5.heap.size := ⟨_, rfl⟩
        rw [← hSB] at HS6 ⊢
        clear hown6 hgr6 hb6 HOW HBR hSB
        go_wp2_with (at_make; refine wpList_make_full _ rfl _ _ 30 rfl w6.heap.size 4 i4 (.bool false) 1 Try.underlying30 hi4 h40 h41 .i64 .i64 _ _ n rfl rfl rfl rfl (by rw [h42]; omega) (by unfold maxLen; omega) (Nat.le_refl _) ?_; intro w7 hown7 hgr7; refine Still.go ?_)
        unfold Still
        have hb7 : Below w6.heap.size w6 w7 := (Below.refl _ w6).grown hgr7 (Nat.le_refl _) (fun k e => by cases e)
        have HD7 : Hid (w7.ownsRow w.heap.size 4 1 (.slice (some ⟨w6.heap.size, 0, none⟩) n n) n ((dkT n lv 0).map Value.bool)) := by
          rw [made_bool, ← List.map_replicate] at hown7
          rw [dkT_zero]
          exact own_base hown7 HB6.out.size
        have HS7 := hide' (own_below HS6.out hb7 (Nat.le_refl _))
        have HW7 := hide' (own_below HW6.out hb7 (Nat.le_refl _))
        have HB7 : Hid (Below w.heap.size w w7) := HB6.out.trans (hb7.mono HB6.out.size)
        obtain ⟨Db, hDb⟩ : ∃ z, z = w6.heap.size := ⟨_, rfl⟩
        have HDL : Hid (w.heap.size ≤ Db) := by show _ ≤ _; rw [hDb]; exact HB6.out.size
        rw [← hDb] at HD7 ⊢
        clear hown7 hgr7 hb7 HS6 HW6 HB6 hDb
        have HDB7 := hide' (own_blk HD7.out)
        go_upto_block 6 with fail
        go_cut [20] from 165 to 177 (fun _a wd => Hid (wd.ownsRow w.heap.size 4 1 (.slice (some ⟨Db, 0, none⟩) n n) n ((dkL n lv).map Value.bool)) ∧ Hid (But Db w7 wd))
        case first =>
          go_wp2_with fail
          go_loopw [20] (fun pv wr => ∃ (p : Nat), pv = .int .i64 p ∧ p ≤ n ∧ Hid (wr.ownsRow w.heap.size 4 1 (.slice (some ⟨Db, 0, none⟩) n n) n ((dkT n lv p).map Value.bool)) ∧ Hid (But Db w7 wr)) (fun pv _ => n - (intOf pv).toNat)
          case atStart => exact ⟨0, rfl, Nat.zero_le _, HD7, But.refl _ _⟩
          case round =>
            clear HD7
            obtain ⟨p, rfl, hp, HDR, HBT⟩ := hrel
            by_cases hpn : p < n
            · obtain ⟨Dc, hDc⟩ := HDB7.out
              have HWR := hide' (own_but HW7.out HBT.out (own_not HW7.out hDc (by decide)))
              obtain ⟨cw, _⟩ := own_int HWR.out (p := p) hpn
              rw [nat_getD] at cw
              obtain ⟨cd, fd⟩ := own_bool HDR.out hpn
              have HNEW := hide' (own_bool_set HDR.out p (decide (0 < lv.getD p 0)))
              rw [← dkT_next] at HNEW
              have HBN : Hid (But Db w7 (wr.setCell ⟨Db, p, none⟩ (.bool (decide (0 < lv.getD p 0))))) := HBT.out.set p _
              obtain ⟨x, hx⟩ : ∃ x, x = lv.getD p 0 := ⟨_, rfl⟩
              rw [← hx] at cw HBN HNEW
              have hdx : decide ((0 : Int) < (x : Int)) = decide (0 < x) := by simp
              have HDX := hide' hdx
              clear hx hDc hdx
              cases hx2 : decide (0 < x)
              · have hx0 : x = 0 := by simpa using hx2
                rw [hx2] at HNEW HBN
                subst hx0
                clear hx2
                go_wp2
                go_roundw
                case rel => exact ⟨p + 1, by go_num, by omega, HNEW, HBN⟩
                case measure => simp [intOf]; omega
              · have hx0 : 0 < x := by simpa using hx2
                rw [hx2] at HNEW HBN
                clear hx2
                go_wp2
                go_roundw
                case rel => exact ⟨p + 1, by go_num, by omega, HNEW, HBN⟩
                case measure => simp [intOf]; omega
            · have hpe : p = n := by omega
              rw [hpe, dkT_all] at HDR
              go_wp2
              go_meet
              case rel => exact ⟨HDR, HBT⟩
        case rest =>
          obtain ⟨HD8, HBT⟩ := hcut
          clear HD7
          obtain ⟨Dc, hDc⟩ := HDB7.out
          have HS8 := hide' (own_but HS7.out HBT.out (own_not HS7.out hDc (by decide)))
          have HW8 := hide' (own_but HW7.out HBT.out (own_not HW7.out hDc (by decide)))
          have HB8 : Hid (Below w.heap.size w wc) := But.below HB7.out (Nat.le_refl _) HDL.out HBT.out
          clear hDc HDB7 HS7 HW7 HB7 HBT
          obtain ⟨w8, hw8⟩ : ∃ z, z = wc := ⟨_, rfl⟩
          rw [← hw8] at HD8 HS8 HW8 HB8 ⊢
          clear hw8
          have HSBL : Hid (w.heap.size ≤ SB) := own_at HS8.out SB rfl
          obtain ⟨Sc, hSc⟩ := own_blk HS8.out
          have HSC := hide' hSc
          have HR0 : Hid (RowsAt w8 w8.heap.size (List.replicate L (.slice none 0 0)) (rowsL lv cs st L 0)) := by rw [rows_zero]; exact RowsAt.nil _ _ _
          clear hSc
          go_wp2_with fail
          go_loopw [21] (fun kv wr => ∃ (k : Nat) (vals : List Value), kv = .int .i64 k ∧ k ≤ q ∧ Hid (wr.ownsRow w.heap.size 22 1 (.slice (some ⟨SB, 0, none⟩) L L) L vals) ∧ Hid (RowsAt wr w8.heap.size vals (rowsL lv cs st L k)) ∧ Hid (But SB w8 wr)) (fun kv _ => q - (intOf kv).toNat)
          case atStart => exact ⟨0, _, rfl, Nat.zero_le _, HS8, HR0, But.refl _ _⟩
          case round =>
            clear HS8 HR0
            obtain ⟨k, vals, rfl, hk, HSR, HRR, HBT⟩ := hrel
            have HBW : Hid (Below w.heap.size w wr) := But.below HB8.out (Nat.le_refl _) HSBL.out HBT.out
            by_cases hkq : k < q
            · have hkc : k < cs.length := by rw [← HQC.out]; exact hkq
              obtain ⟨bt, ot, ha0, hc0, hc1⟩ := HCA.out k hkq
              obtain ⟨bs, os, hb0, hcs⟩ := HSA.out k hkq
              subst ha0
              subst hb0
              obtain ⟨ha, hb, hab⟩ := HPL.out k hkc
              have d0 := up_cell HBW.out hc0
              have d1 := up_cell HBW.out hc1
              have HWR := hide' (own_but HW8.out HBT.out (own_not HW8.out HSC.out (by decide)))
              obtain ⟨ca, _⟩ := own_int HWR.out (p := (cs.getD k (0, 0)).1) ha
              obtain ⟨cb, _⟩ := own_int HWR.out (p := (cs.getD k (0, 0)).2) hb
              rw [nat_getD] at ca cb
              have HMK := hide' (mk_mm lv cs k)
              have hmle := mk_le HL.out k
              have HSKP : Hid ((mkk lv cs k = 0 ∨ st.getD k false = true) → rowsL lv cs st L (k + 1) = rowsL lv cs st L k) := fun h => rows_skip h
              have HMET : Hid (∀ i, mkk lv cs k = i + 1 → st.getD k false = false → rowsL lv cs st L (k + 1) = (rowsL lv cs st L k).set i (opL lv cs st (i + 1) k ++ [(k : Int)])) := fun i h1 h2 => rows_meet h1 h2
              obtain ⟨x, hx⟩ : ∃ x, x = (cs.getD k (0, 0)).1 := ⟨_, rfl⟩
              obtain ⟨y, hy⟩ : ∃ y, y = (cs.getD k (0, 0)).2 := ⟨_, rfl⟩
              rw [← hx] at d0 ca HMK ha
              rw [← hy] at d1 cb HMK hb
              obtain ⟨lx, hlx⟩ : ∃ z, z = lv.getD x 0 := ⟨_, rfl⟩
              obtain ⟨ly, hly⟩ : ∃ z, z = lv.getD y 0 := ⟨_, rfl⟩
              obtain ⟨mv, hmv⟩ : ∃ z, z = mkk lv cs k := ⟨_, rfl⟩
              rw [← hlx] at ca HMK
              rw [← hly] at cb HMK
              rw [← hmv] at HMK hmle HSKP HMET
              have HMV := hide' hmv
              have HSKC := hide' hcs
              have HSD : Hid (∀ z, (wr.drewN z).ownsRow w.heap.size 22 1 (.slice (some ⟨SB, 0, none⟩) L L) L vals) := fun z => own_below HSR.out (below_drewN (Below.refl _ wr) z) (Nat.le_refl _)
              have HRD : Hid (∀ z, RowsAt (wr.drewN z) w8.heap.size vals (rowsL lv cs st L k)) := fun z => HRR.out.keep fun _ _ _ _ _ h => own_below h (below_drewN (Below.refl _ wr) z) (Nat.le_refl _)
              have HBD : Hid (∀ z, But SB w8 (wr.drewN z)) := fun z => HBT.out.trans (But.of (below_drewN (Below.refl _ wr) z))
              clear hc0 hc1 hcs hx hy hlx hly hmv hab HSR HRR HBT HBW HWR
              go_wp2_with fail
              go_quiet (fail)
              have HSR := hide' (HSD.out nq)
              have HRR := hide' (HRD.out nq)
              have HBT := hide' (HBD.out nq)
              obtain ⟨w9, hw9⟩ : ∃ z, z = wr.drewN nq := ⟨_, rfl⟩
              rw [← hw9] at HSR HRR HBT ⊢
              clear hw9 HSD HRD HBD d0 d1 ca cb
              have HBW : Hid (Below w.heap.size w w9) := But.below HB8.out (Nat.le_refl _) HSBL.out HBT.out
              have ds := up_cell HBW.out HSKC.out
              go_upto_region 36 with fail
              have hmm := HMK.out
              unfold mm at hmm
              go_cut [210] from 200 to 209 (fun v210 wx => v210 = .bool (decide (lx = 0 ∨ (0 < ly ∧ ly < lx))) ∧ wx = w9)
              case first =>
                by_cases g1 : lx = 0
                · subst g1
                  go_wp2
                  go_meet
                  case rel => exact ⟨by simp, rfl⟩
                · have e1 : ((lx : Int) == 0) = false := by rw [beq_eq_false_iff_ne]; omega
                  by_cases g2 : 0 < ly
                  · by_cases g3 : ly < lx
                    · go_wp2
                      go_meet
                      case rel => exact ⟨by simp [g1, g2, g3], rfl⟩
                    · go_wp2
                      go_meet
                      case rel => exact ⟨by simp [g1, g3], rfl⟩
                  · go_wp2
                    go_meet
                    case rel => exact ⟨by simp [g1, g2], rfl⟩
              case rest =>
                obtain ⟨rfl, hwx⟩ := hcut
                obtain rfl := hwx.symm
                go_upto_if 210 with fail
                go_cut [22, 210] from 211 to 211 (fun v22 _x wx => v22 = .int .i64 (mv : Int) ∧ wx = w9)
                case first =>
                  by_cases g1 : lx = 0 ∨ (0 < ly ∧ ly < lx)
                  · have e1 : decide (lx = 0 ∨ (0 < ly ∧ ly < lx)) = true := by simp only [decide_eq_true_iff]; exact g1
                    have e2 : mv = ly := by
                      rw [hmm]
                      split
                      · rfl
                      · split <;> omega
                    rw [e1]
                    have HE2 := hide' e2
                    clear e1 e2 g1 hmm
                    go_wp2
                    go_meet
                    case rel => exact ⟨by rw [HE2.out], rfl⟩
                  · have e1 : decide (lx = 0 ∨ (0 < ly ∧ ly < lx)) = false := by simp only [decide_eq_false_iff_not]; exact g1
                    have e2 : mv = lx := by
                      rw [hmm]
                      split
                      · omega
                      · split <;> omega
                    rw [e1]
                    have HE2 := hide' e2
                    clear e1 e2 g1 hmm
                    go_wp2
                    go_meet
                    case rel => exact ⟨by rw [HE2.out], rfl⟩
                case rest =>
                  obtain ⟨rfl, hwx⟩ := hcut
                  obtain rfl := hwx.symm
                  obtain ⟨sk, hsk⟩ : ∃ z, z = st.getD k false := ⟨_, rfl⟩
                  rw [← hsk] at ds HSKP HMET
                  clear hsk hmm HMK
                  by_cases g1 : mv = 0
                  · subst g1
                    have HE := hide' (HSKP.out (.inl rfl))
                    rw [← HE.out] at HRR
                    clear HSKP HMET
                    go_wp2
                    go_roundw
                    case rel => exact ⟨k + 1, vals, by go_num, by omega, HSR, HRR, HBT⟩
                    case measure => simp [intOf]; omega
                  · cases sk with
                    | true =>
                      have HE := hide' (HSKP.out (.inr rfl))
                      rw [← HE.out] at HRR
                      have hmp : 0 < mv := by omega
                      have hmd : decide ((0 : Int) < (mv : Int)) = true := by simp; omega
                      clear HSKP HMET
                      go_wp2
                      go_roundw
                      case rel => exact ⟨k + 1, vals, by go_num, by omega, HSR, HRR, HBT⟩
                      case measure => simp [intOf]; omega
                    | false =>
                      obtain ⟨i, rfl⟩ : ∃ i, mv = i + 1 := ⟨mv - 1, by omega⟩
                      have hiL : i < L := by omega
                      have HE := hide' (HMET.out i rfl rfl)
                      have hvl : i < vals.length := by have := HSR.out.1; omega
                      have hrg := rows_get (lv := lv) (cs := cs) (st := st) (k := k) hiL
                      have hrow := (HRR.out.2 i vals[i] _ (List.getElem?_eq_getElem hvl) hrg).1
                      obtain ⟨xa, xc, hxv⟩ := own_slice hrow
                      obtain ⟨cS, fS⟩ := own_cell HSR.out (j := i) (List.getElem?_eq_getElem hvl)
                      rw [hxv] at cS hrow
                      have hol := op_len lv cs st (i + 1) k
                      obtain ⟨ol, holl⟩ : ∃ z, z = (opL lv cs st (i + 1) k).length := ⟨_, rfl⟩
                      rw [← holl] at cS hrow hxv hol
                      have HXV := hide' hxv
                      have HOLL := hide' holl
                      have HROW := hide' hrow
                      have hwi : IntKind.i64.wrap (((i + 1 : Nat) : Int) - 1) = (i : Int) := by rw [Go.IntWalk.i64_in _ (by omega)]; omega
                      have HZ : Hid (w8.heap.size ≤ w9.heap.size) := HBT.out.size
                      have hmp : 0 < i + 1 := by omega
                      have HVL := hide' hvl
                      have HRG := hide' hrg
                      clear hxv holl hrow hrg HSKP HMET g1
                      go_wp2_with (at_builtin; refine wpList_append_own _ rfl _ _ 22 rfl w8.heap.size 3 i3 (.int .i64 0) 1 8 Try.underlying22 hi3 h30 h31 h32 rfl (by decide) _ _ _ rfl (HROW.out.alloc _) ⟨w9.heap.size, 0, none⟩ 1 1 [.int .i64 (k : Int)] rfl rfl (cell_one_new _ _ _) (one_cell rfl) (by unfold maxLen; omega) (by omega) (by have := HZ.out; simp; omega) ?_; intro v' wa hown' hgrow _; refine Still.go ?_)
                      unfold Still
                      have HSA9 := hide' (own_below HSR.out (below_al w9 (.cells #[.int .i64 (k : Int)] 3)) (Nat.le_refl _))
                      have HRO9 := hide' (own_below HROW.out (below_al w9 (.cells #[.int .i64 (k : Int)] 3)) (Nat.le_refl _))
                      have HSW := hide' (own_grown HSA9.out hgrow (own_apart HSA9.out HRO9.out (by decide)))
                      have HBA := hide' (HBT.out.app HROW.out hgrow)
                      have HRA : Hid (RowsAt wa w8.heap.size (vals.set i v') ((rowsL lv cs st L k).set i (opL lv cs st (i + 1) k ++ [(k : Int)]))) := by
                        refine HRR.out.app (x := .slice xa ol xc) (o := .cells #[.int .i64 (k : Int)] 3) (by rw [List.getElem?_eq_getElem HVL.out, HXV.out]) HRG.out ?_ hgrow (fun j l' hj hl' => rows_ne hj hl')
                        have h1 := hown'
                        rw [HOLL.out] at h1
                        exact own_snoc h1
                      rw [← HE.out] at HRA
                      obtain ⟨cS2, fS2⟩ := own_cell HSW.out (j := i) (List.getElem?_eq_getElem HVL.out)
                      rw [HXV.out] at cS2
                      have HSN := hide' (own_row_set HSW.out i v')
                      have HBN : Hid (But SB w8 (wa.setCell ⟨SB, i, none⟩ v')) := HBA.out.set i _
                      have HRN : Hid (RowsAt (wa.setCell ⟨SB, i, none⟩ v') w8.heap.size (vals.set i v') (rowsL lv cs st L (k + 1))) := by
                        obtain ⟨cur, hcur⟩ := own_blk HSW.out
                        exact HRA.out.keep fun _ _ _ _ _ h => own_but h ((But.refl SB wa).set i v') (own_not h hcur (by decide))
                      obtain ⟨va, vc, hv⟩ := own_slice hown'
                      subst hv
                      clear hown' hgrow HSA9 HRO9 HRA HSW HBA cS fS HSR HRR HBT
                      go_wp2
                      go_roundw
                      case rel => exact ⟨k + 1, _, by go_num, by omega, HSN, HRN, HBN⟩
                      case measure => simp [intOf]; omega
            · have HFIN : Hid (StepsAt wr w.heap.size (.slice (some ⟨SB, 0, none⟩) L L) (stepsL lv cs st L)) := by
                have h1 := HRR.out
                rw [show k = cs.length by rw [← HQC.out]; omega] at h1
                exact rows_steps HB8.out.size HSR.out h1
              have HDF : Hid (wr.ownsRow w.heap.size 4 1 (.slice (some ⟨Db, 0, none⟩) n n) n ((dkL n lv).map Value.bool)) := own_but HD8.out HBT.out (own_not HD8.out HSC.out (by decide))
              go_wp2
              refine bodyPost_ret (results_tmp3 rfl _ _ _) rfl ?_
              exact HWO.out _ _ ⟨.inr (.inr ⟨HSZ.out, HRB.out, n, f, cs, SB, Db, rfl, rfl, HCZ.out, rfl, HFIN.out, HDF.out⟩), HBW.out⟩
end Go.Proofs.Ytpejnkngmnabfai
