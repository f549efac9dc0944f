/- Clear, in the program. -/
import Derived.Test.YtpejnkngmnabfaiQ4
namespace Go.Proofs.Ytpejnkngmnabfai
open Go.RowKit Go.Shelf

def castC (c : CutM) : Int × Int := ((c.1 : Int), (c.2 : Int))
def sizeB (P : Int) (cz : List (Int × Int)) (st : List Bool) : Bool := (decide (1 ≤ P) && decide (P ≤ 12)) && (decide (cz.length ≤ 20) && decide (st.length = cz.length))
def rangeB (n : Nat) (cz : List (Int × Int)) (F : Int) : Bool := placedB n cz && inP n F
theorem cells_cast (cs : List CutM) : (cs.map castC).flatMap cellsZ = cs.flatMap CutM.cells := by
  rw [List.flatMap_map]; rfl
theorem inP_iff {n : Nat} {x : Int} : inP n x = true ↔ 0 ≤ x ∧ x < (n : Int) := by unfold inP; rw [Bool.and_eq_true, decide_eq_true_iff, decide_eq_true_iff]; omega
theorem cutB_iff {n : Nat} {c : Int × Int} : cutB n c = true ↔ (0 ≤ c.1 ∧ c.1 < (n : Int)) ∧ (0 ≤ c.2 ∧ c.2 < (n : Int)) ∧ c.1 ≠ c.2 := by unfold cutB; rw [Bool.and_eq_true, Bool.and_eq_true, inP_iff, inP_iff]; simp
theorem placed_nat {n : Nat} {cz : List (Int × Int)} (h : placedB n cz = true) : ∃ cs : List CutM, cz = cs.map castC ∧ Placed n cs := by
  unfold placedB at h
  rw [List.all_eq_true] at h
  refine ⟨cz.map fun c => (c.1.toNat, c.2.toNat), ?_, fun k hk => ?_⟩
  · rw [List.map_map]
    refine (List.map_id' _).symm.trans (List.map_congr_left fun c hc => ?_)
    have h1 := cutB_iff.1 (h c hc)
    obtain ⟨x, y⟩ := c
    show (x, y) = (((x.toNat : Nat) : Int), ((y.toNat : Nat) : Int))
    simp only at h1
    rw [Int.toNat_of_nonneg h1.1.1, Int.toNat_of_nonneg h1.2.1.1]
  · rw [List.length_map] at hk
    rw [List.getD_eq_getElem?_getD, List.getElem?_map, List.getElem?_eq_getElem hk]
    have h1 := cutB_iff.1 (h cz[k] (List.getElem_mem hk))
    show (cz[k]).1.toNat < n ∧ (cz[k]).2.toNat < n ∧ (cz[k]).1.toNat ≠ (cz[k]).2.toNat
    omega
theorem placed_back {n : Nat} {cs : List CutM} (h : Placed n cs) : placedB n (cs.map castC) = true := by
  unfold placedB
  rw [List.all_eq_true]
  intro c hc
  obtain ⟨d, hd, rfl⟩ := List.mem_map.1 hc
  obtain ⟨k, hk, rfl⟩ := List.mem_iff_getElem.1 hd
  have h1 := h k hk
  rw [List.getD_eq_getElem?_getD, List.getElem?_eq_getElem hk] at h1
  rw [cutB_iff]
  show (0 ≤ ((cs[k].1 : Nat) : Int) ∧ ((cs[k].1 : Nat) : Int) < (n : Int)) ∧ (0 ≤ ((cs[k].2 : Nat) : Int) ∧ ((cs[k].2 : Nat) : Int) < (n : Int)) ∧ ((cs[k].1 : Nat) : Int) ≠ ((cs[k].2 : Nat) : Int)
  have h2 : cs[k].1 < n ∧ cs[k].2 < n ∧ cs[k].1 ≠ cs[k].2 := h1
  omega
/-- What Clear answers. -/
def ClearO (P : Int) (cz : List (Int × Int)) (F : Int) (st : List Bool) (w : World) (e : Ending) (w' : World) : Prop :=
  ((sizeB P cz st = false ∧ e = .returned (.tuple #[.slice none 0 0, .slice none 0 0, .int .i64 2])) ∨ (sizeB P cz st = true ∧ rangeB P.toNat cz F = false ∧ e = .returned (.tuple #[.slice none 0 0, .slice none 0 0, .int .i64 4])) ∨ (sizeB P cz st = true ∧ rangeB P.toNat cz F = true ∧ ∃ (n f : Nat) (cs : List CutM) (L : Nat) (lv : List Nat) (sv : Value) (D cd : Nat), P = (n : Int) ∧ F = (f : Int) ∧ cz = cs.map castC ∧ 1 ≤ n ∧ n ≤ 12 ∧ f < n ∧ Placed n cs ∧ cs.length ≤ 20 ∧ st.length = cs.length ∧ e = .returned (.tuple #[sv, .slice (some ⟨D, 0, none⟩) n cd, .int .i64 0]) ∧ Lev n f cs st L L lv ∧ StepsAt w' w.heap.size sv (stepsL lv cs st L) ∧ w'.ownsRow w.heap.size 4 1 (.slice (some ⟨D, 0, none⟩) n cd) n ((dkL n lv).map Value.bool))) ∧ Below w.heap.size w w'
set_option maxRecDepth 100000 in
set_option maxHeartbeats 2000000 in
theorem Clear_any (P : Int) (cz : List (Int × Int)) (F : Int) (st : List Bool) (v v2 : Value) (w : World) (hr : RowAt w v cz.length 2 (cz.flatMap cellsZ)) (hrs : RowAt w v2 st.length 1 (st.map Value.bool)) (hl : cz.length ≤ 2000000) (hls : st.length ≤ 2000000) :
    Calls Try.prog 12 #[.int .i64 P, v, .int .i64 F, v2] w (ClearO P cz F st w) := by
  have HWO : Hid (∀ e w', ((sizeB P cz st = false ∧ e = .returned (.tuple #[.slice none 0 0, .slice none 0 0, .int .i64 2])) ∨ (sizeB P cz st = true ∧ rangeB P.toNat cz F = false ∧ e = .returned (.tuple #[.slice none 0 0, .slice none 0 0, .int .i64 4])) ∨ (sizeB P cz st = true ∧ rangeB P.toNat cz F = true ∧ ∃ (n f : Nat) (cs : List CutM) (L : Nat) (lv : List Nat) (sv : Value) (D cd : Nat), P = (n : Int) ∧ F = (f : Int) ∧ cz = cs.map castC ∧ 1 ≤ n ∧ n ≤ 12 ∧ f < n ∧ Placed n cs ∧ cs.length ≤ 20 ∧ st.length = cs.length ∧ e = .returned (.tuple #[sv, .slice (some ⟨D, 0, none⟩) n cd, .int .i64 0]) ∧ Lev n f cs st L L lv ∧ StepsAt w' w.heap.size sv (stepsL lv cs st L) ∧ w'.ownsRow w.heap.size 4 1 (.slice (some ⟨D, 0, none⟩) n cd) n ((dkL n lv).map Value.bool))) ∧ Below w.heap.size w w' → ClearO P cz F st w e w') := fun _ _ h => h
  obtain ⟨R, hR⟩ : ∃ R, R = ClearO P cz F st w := ⟨_, rfl⟩
  rw [← hR] at HWO ⊢
  clear hR
  have HR := hide' hr
  have HRS := hide' hrs
  obtain ⟨a, cap, rfl⟩ := rowAt_slice hr
  obtain ⟨b, capb, rfl⟩ := rowAt_slice hrs
  have HSB : Hid (sizeB P cz st = ((decide (1 ≤ P) && decide (P ≤ 12)) && (decide (cz.length ≤ 20) && decide (st.length = cz.length)))) := rfl
  obtain ⟨m, hm⟩ : ∃ m, m = cz.length := ⟨_, rfl⟩
  obtain ⟨q, hq⟩ : ∃ m, m = st.length := ⟨_, rfl⟩
  have HM := hide' hm
  have HQ := hide' hq
  rw [← hm, ← hq] at HSB ⊢
  rw [← hm] at hl
  rw [← hq] at hls
  clear hr hrs hm hq
  by_cases h1 : P < 1
  · have HSZ : Hid (sizeB P cz st = false) := by show _ = _; rw [HSB.out]; simp; omega
    go_enter Try.func12, Try.ntmps12
    go_wp2
    refine bodyPost_ret (results_tmp3 rfl _ _ _) rfl ?_
    exact HWO.out _ _ ⟨.inl ⟨HSZ.out, rfl⟩, Below.refl _ _⟩
  by_cases h2 : 12 < P
  · have HSZ : Hid (sizeB P cz st = false) := by show _ = _; rw [HSB.out]; simp; omega
    go_enter Try.func12, Try.ntmps12
    go_wp2
    refine bodyPost_ret (results_tmp3 rfl _ _ _) rfl ?_
    exact HWO.out _ _ ⟨.inl ⟨HSZ.out, rfl⟩, Below.refl _ _⟩
  by_cases h3 : 20 < m
  · have HSZ : Hid (sizeB P cz st = false) := by show _ = _; rw [HSB.out]; simp; omega
    go_enter Try.func12, Try.ntmps12
    go_wp2
    refine bodyPost_ret (results_tmp3 rfl _ _ _) rfl ?_
    exact HWO.out _ _ ⟨.inl ⟨HSZ.out, rfl⟩, Below.refl _ _⟩
  by_cases h4 : q = m
  rotate_left
  · have HSZ : Hid (sizeB P cz st = false) := by show _ = _; rw [HSB.out]; simp; omega
    have hne : ((q : Int) != (m : Int)) = true := by simp; omega
    go_enter Try.func12, Try.ntmps12
    go_wp2
    refine bodyPost_ret (results_tmp3 rfl _ _ _) rfl ?_
    exact HWO.out _ _ ⟨.inl ⟨HSZ.out, rfl⟩, Below.refl _ _⟩
  subst h4
  obtain ⟨n, rfl⟩ : ∃ n : Nat, P = (n : Int) := ⟨P.toNat, by omega⟩
  have HSZ : Hid (sizeB (n : Int) cz st = true) := by show _ = _; rw [HSB.out]; simp; omega
  have HAP : Hid (Calls Try.prog 23 #[.slice a q cap, .int .i64 n] w fun e w' => e = .returned (.bool (placedB n cz)) ∧ Below w.heap.size w w') := by
    have h5 := arePlaced_any cz n (by omega) (by rw [← HM.out]; omega) _ w HR.out
    rw [← HM.out] at h5; exact h5
  have HUP : Hid (∀ w', Calls Try.prog 19 #[.int .i64 ((n : Int) - 1), .int .i64 F] w' fun e w2 => e = .returned (.bool (inP n F)) ∧ w2 = w') := fun w' => isUpTo_any _ F w'
  have HRB : Hid (rangeB ((n : Int).toNat) cz F = (placedB n cz && inP n F)) := by show _ = _; rw [Int.toNat_natCast]; rfl
  have hwn : IntKind.i64.wrap ((n : Int) - 1) = (n : Int) - 1 := Go.IntWalk.i64_in _ (by omega)
  have HTRIP : Hid (placedB n cz = true → inP n F = true → ∀ w', Below w.heap.size w w' → ∃ (f : Nat) (cs : List CutM), F = (f : Int) ∧ cz = cs.map castC ∧ f < n ∧ Placed n cs ∧ cs.length = q ∧ Calls Try.prog 24 #[.int .i64 n, .slice a q cap, .int .i64 f, .slice b q capb] w' (TripO n f cs st w')) := fun h5 h6 w' hb => by
    obtain ⟨cs, hcz, hpl⟩ := placed_nat h5
    have hF := inP_iff.1 h6
    have hcl : cs.length = q := by rw [HM.out, hcz, List.length_map]
    refine ⟨F.toNat, cs, by omega, hcz, by omega, hpl, hcl, ?_⟩
    have h7 := trip_any n F.toNat (by omega) (by omega) cs st hpl (by rw [← HQ.out, hcl]) (by omega) a b cap capb w'
    rw [hcl] at h7
    refine h7 ?_ ?_
    · have h8 := HR.out.below hb (Nat.le_refl _)
      rw [hcz, cells_cast, List.length_map, hcl] at h8
      exact h8
    · have h8 := HRS.out.below hb (Nat.le_refl _)
      rw [← HQ.out] at h8
      exact h8
  obtain ⟨pb, hpb⟩ : ∃ x, x = placedB n cz := ⟨_, rfl⟩
  obtain ⟨fb, hfb⟩ : ∃ x, x = inP n F := ⟨_, rfl⟩
  rw [← hpb] at HAP
  rw [← hfb] at HUP
  rw [← hpb, ← hfb] at HRB HTRIP
  clear hpb hfb
  go_enter Try.func12, Try.ntmps12
  go_wp2_with fail
  refine HAP.out.mono ?_
  rintro e w1 ⟨rfl, hb1⟩
  have HB1 := hide' hb1
  clear hb1 HAP
  cases pb with
  | false =>
    go_wp2
    refine bodyPost_ret (results_tmp3 rfl _ _ _) rfl ?_
    exact HWO.out _ _ ⟨.inr (.inl ⟨HSZ.out, HRB.out, rfl⟩), HB1.out⟩
  | true =>
    have HUW := hide' (HUP.out w1)
    go_wp2_with fail
    refine HUW.out.mono ?_
    rintro e w2 ⟨rfl, hw2⟩
    obtain rfl := hw2.symm
    cases fb with
    | false =>
      go_wp2
      refine bodyPost_ret (results_tmp3 rfl _ _ _) rfl ?_
      exact HWO.out _ _ ⟨.inr (.inl ⟨HSZ.out, HRB.out, rfl⟩), HB1.out⟩
    | true =>
      obtain ⟨f, cs, hF, hcz, hfn, hpl, hcl, hcall⟩ := HTRIP.out (by trivial) (by trivial) w1 HB1.out
      subst hF
      have HC := hide' hcall
      have HCZ := hide' hcz
      have HPL := hide' hpl
      have HFN := hide' hfn
      have HCL := hide' hcl
      clear hcall hcz hpl hfn hcl HTRIP HUP HUW
      go_wp2_with fail
      refine HC.out.mono ?_
      rintro e w3 ⟨L, lv, sv, D, cd, rfl, hlev, hst, hdk, hb3⟩
      obtain ⟨vals, g1, g2, g3⟩ := hst
      obtain ⟨sa, sc, rfl⟩ := own_slice g2
      have HLEV := hide' hlev
      have HB3 : Hid (Below w.heap.size w w3) := HB1.out.trans (hb3.mono HB1.out.size)
      have HST : Hid (StepsAt w3 w.heap.size (.slice sa (stepsL lv cs st L).length sc) (stepsL lv cs st L)) := ⟨vals, g1, own_base g2 HB1.out.size, fun j x l hx hl => own_base (g3 j x l hx hl) HB1.out.size⟩
      have HDK := hide' (own_base hdk HB1.out.size)
      clear hlev hdk hb3 g1 g2 g3
      rw [steps_len] at HST ⊢
      go_wp2
      refine bodyPost_ret (results_tmp3 rfl _ _ _) rfl ?_
      exact HWO.out _ _ ⟨.inr (.inr ⟨HSZ.out, HRB.out, n, f, cs, L, lv, _, D, cd, rfl, rfl, HCZ.out, by omega, by omega, HFN.out, HPL.out, by rw [HCL.out]; omega, by rw [← HQ.out, HCL.out], rfl, HLEV.out, HST.out, HDK.out⟩), HB3.out⟩
end Go.Proofs.Ytpejnkngmnabfai
