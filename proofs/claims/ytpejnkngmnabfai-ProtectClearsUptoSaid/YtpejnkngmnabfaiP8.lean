/- Grade, in the document's answer. -/
import Derived.Test.YtpejnkngmnabfaiP7
namespace Go.Proofs.Ytpejnkngmnabfai
open Go.RowKit Go.Shelf

theorem inBounds_any (x lo hi : Int) (w : World) : Calls Try.prog 21 #[.int .i64 x, .int .i64 lo, .int .i64 hi] w fun e w' => e = .returned (.bool (decide (lo ≤ x) && decide (x ≤ hi))) ∧ w' = w := by
  by_cases h0 : lo ≤ x
  · by_cases h1 : x ≤ hi
    · go_enter Try.func21, Try.ntmps21
      go_wp2
      go_ret
      exact ⟨by simp [h0, h1], rfl⟩
    · go_enter Try.func21, Try.ntmps21
      go_wp2
      go_ret
      exact ⟨by simp [h1], rfl⟩
  · go_enter Try.func21, Try.ntmps21
    go_wp2
    go_ret
    exact ⟨by simp; omega, rfl⟩
theorem getD_snoc_lt {l : List Int} {i : Nat} {x y : Int} (h : i < l.length) : (l ++ [x]).getD i y = l.getD i y := by
  rw [List.getD_eq_getElem?_getD, List.getD_eq_getElem?_getD, List.getElem?_append_left h]
theorem getD_snoc_eq {l : List Int} {x y : Int} : (l ++ [x]).getD l.length y = x := by simp
/-- What the document answers. -/
def GradeOfO (bs : List Int) (base step : Int) (w : World) (e : Ending) (w' : World) : Prop :=
  ((20 < bs.length ∧ e = .returned (.tuple #[.slice none 0 0, .int .i64 2])) ∨ (bs.length ≤ 20 ∧ gradeB bs base step = false ∧ e = .returned (.tuple #[.slice none 0 0, .int .i64 4])) ∨ (bs.length ≤ 20 ∧ gradeB bs base step = true ∧ ∃ T v, e = .returned (.tuple #[v, .int .i64 0]) ∧ Timed bs base step 0 T ∧ w'.ownsRow w.heap.size 3 1 v bs.length (ints T))) ∧ Below w.heap.size w w'
/-- The times of the first ones. -/
def Some_ (bs : List Int) (base step : Int) (T : List Int) : Prop := ∀ k, k < T.length → ∃ n : Nat, Deep bs k n ∧ T.getD k 0 = base + step * (n : Int)
theorem Some_.snoc {bs : List Int} {base step : Int} {T : List Int} (h : Some_ bs base step T) {n : Nat} (hd : Deep bs T.length n) : Some_ bs base step (T ++ [base + step * (n : Int)]) := fun k hk => by
  rw [List.length_append, List.length_singleton] at hk
  by_cases e : k < T.length
  · rw [getD_snoc_lt e]; exact h k e
  · rw [show k = T.length by omega, getD_snoc_eq]; exact ⟨n, hd, rfl⟩
set_option maxRecDepth 100000 in
set_option maxHeartbeats 2000000 in
theorem GradeOf_any (bs : List Int) (base step : Int) (v : Value) (w : World) (hr : RowAt w v bs.length 1 (ints bs)) (hn : bs.length ≤ 9000000000000000000) : Calls Try.prog 10 #[v, .int .i64 base, .int .i64 step] w (GradeOfO bs base step w) := by
  have HWO : Hid (∀ e w', ((20 < bs.length ∧ e = .returned (.tuple #[.slice none 0 0, .int .i64 2])) ∨ (bs.length ≤ 20 ∧ gradeB bs base step = false ∧ e = .returned (.tuple #[.slice none 0 0, .int .i64 4])) ∨ (bs.length ≤ 20 ∧ gradeB bs base step = true ∧ ∃ T v, e = .returned (.tuple #[v, .int .i64 0]) ∧ Timed bs base step 0 T ∧ w'.ownsRow w.heap.size 3 1 v bs.length (ints T))) ∧ Below w.heap.size w w' → GradeOfO bs base step w e w') := fun _ _ h => h
  obtain ⟨R, hR⟩ : ∃ R, R = GradeOfO bs base step w := ⟨_, rfl⟩
  rw [← hR] at HWO ⊢
  clear hR
  obtain ⟨i0, hi0, hzz0, hzz1, hzz2⟩ := info_parts Try.info3
  have HG := hide' hr
  obtain ⟨a, cap, rfl⟩ := rowAt_slice hr
  have HIB : Hid (∀ x : Int, Calls Try.prog 21 #[.int .i64 x, .int .i64 0, .int .i64 1000000] w fun e w' => e = .returned (.bool (inB x)) ∧ w' = w) := fun x => inBounds_any x 0 1000000 w
  have HGB : Hid (gradeB bs base step = (aheadB bs 0 && (inB base && inB step))) := rfl
  clear hr
  by_cases h20 : 20 < bs.length
  · go_enter Try.func10, Try.ntmps10
    go_wp2
    exact HWO.out _ _ ⟨.inl ⟨h20, rfl⟩, Below.refl _ _⟩
  have HN : Hid (bs.length ≤ 20) := by show _ ≤ _; omega
  have HUB := hide' (HIB.out base)
  have HUS := hide' (HIB.out step)
  clear HIB
  go_enter Try.func10, Try.ntmps10
  go_wp2_with fail
  go_loopw [8] (fun i wr => ∃ (k : Nat), i = .int .i64 k ∧ k ≤ bs.length ∧ Hid (aheadB (bs.drop k) k = aheadB bs 0) ∧ wr = w) (fun i _ => bs.length - (intOf i).toNat)
  case atStart => exact ⟨0, rfl, Nat.zero_le _, by show _ = _; rfl, rfl⟩
  case round =>
    obtain ⟨k, rfl, hk, HOK, hwr⟩ := hrel
    obtain rfl := hwr.symm
    by_cases hlt : k < bs.length
    · obtain ⟨bt, ot, ct', ex, hct⟩ := ints_cell HG.out k hlt
      cases ex
      have HS := hide' (aheadB_step hlt)
      rw [get_same hlt] at HS
      obtain ⟨x, hx⟩ : ∃ x, x = bs.getD k 0 := ⟨_, rfl⟩
      rw [← hx] at hct HS
      clear hx
      have hwk : IntKind.i64.wrap ((k : Int) - 1) = (k : Int) - 1 := Go.IntWalk.i64_in _ (by omega)
      have HIN := hide' (inBounds_any x (-1) ((k : Int) - 1) w)
      have HE : Hid ((decide (-1 ≤ x) && decide (x ≤ (k : Int) - 1)) = (decide (-1 ≤ x) && decide (x < (k : Int)))) := by show _ = _; congr 1; simp; omega
      rw [HE.out] at HIN
      obtain ⟨g, hg⟩ : ∃ g, g = (decide (-1 ≤ x) && decide (x < (k : Int))) := ⟨_, rfl⟩
      rw [← hg] at HIN HS
      clear hg HE
      go_wp2_with fail
      refine HIN.out.mono ?_
      rintro e w1 ⟨rfl, hw1⟩
      obtain rfl := hw1.symm
      cases g with
      | false =>
        have HNO : Hid (gradeB bs base step = false) := by show _ = _; rw [HGB.out, ← HOK.out, HS.out]; rfl
        go_wp2
        exact HWO.out _ _ ⟨.inr (.inl ⟨HN.out, HNO.out, rfl⟩), Below.refl _ _⟩
      | true =>
        have HY : Hid (aheadB (bs.drop (k + 1)) (k + 1) = aheadB bs 0) := by show _ = _; rw [← HOK.out, HS.out]; rfl
        go_wp2
        go_roundw
        case rel => exact ⟨k + 1, by go_num, by omega, HY, trivial⟩
        case measure => simp [intOf]; omega
    · have HALL : Hid (aheadB bs 0 = true) := by
        show _ = _
        rw [← HOK.out, List.drop_eq_nil_of_le (by omega)]; rfl
      rw [HALL.out, Bool.true_and] at HGB
      clear HOK
      obtain ⟨bb, hbb⟩ : ∃ x, x = inB base := ⟨_, rfl⟩
      obtain ⟨sb, hsb⟩ : ∃ x, x = inB step := ⟨_, rfl⟩
      have HBB := hide' hbb
      have HSB := hide' hsb
      rw [← hbb] at HUB
      rw [← hsb] at HUS
      rw [← hbb, ← hsb] at HGB
      clear hbb hsb
      go_wp2_with fail
      refine HUB.out.mono ?_
      rintro e w1 ⟨rfl, hw1⟩
      obtain rfl := hw1.symm
      cases bb with
      | false =>
        go_wp2
        exact HWO.out _ _ ⟨.inr (.inl ⟨HN.out, HGB.out, rfl⟩), Below.refl _ _⟩
      | true =>
        go_wp2_with fail
        refine HUS.out.mono ?_
        rintro e w1 ⟨rfl, hw1⟩
        obtain rfl := hw1.symm
        cases sb with
        | false =>
          go_wp2
          exact HWO.out _ _ ⟨.inr (.inl ⟨HN.out, HGB.out, rfl⟩), Below.refl _ _⟩
        | true =>
          have HB0 := hide' (inB_iff.1 HBB.out.symm)
          have HS0 := hide' (inB_iff.1 HSB.out.symm)
          have HAH := hide' (aheadB_iff.1 HALL.out)
          have HDE : Hid (∀ k, k < bs.length → ∀ w', Below w.heap.size w w' → Calls Try.prog 22 #[.slice a bs.length cap, .int .i64 k] w' fun e w'' => (∃ n : Nat, e = .returned (.int .i64 n) ∧ Deep bs k n) ∧ w'' = w') := fun k hk w' hb => deepest_any bs HAH.out (by have := HN.out; omega) k hk _ w' (HG.out.below hb (Nat.le_refl _))
          clear HUB HUS HBB HSB
          go_wp2_with fail
          go_loopw [9, 10] (fun lv iv wr => ∃ (k : Nat) (T : List Int), iv = .int .i64 k ∧ k ≤ bs.length ∧ T.length = k ∧ Hid (Some_ bs base step T) ∧ Hid (wr.ownsRow w.heap.size 3 1 lv T.length (T.map (Value.int .i64))) ∧ Hid (Below w.heap.size w wr)) (fun _ iv _ => bs.length - (intOf iv).toNat)
          case atStart => exact ⟨0, [], rfl, Nat.zero_le _, rfl, fun i h => absurd h (Nat.not_lt_zero i), World.ownsRow_nil _ _ _ _, Below.refl _ w⟩
          case round =>
            obtain ⟨k, T, rfl, hk, hTk, HSO, HOWN, HBE⟩ := hrel
            have hn20 : bs.length ≤ 20 := HN.out
            by_cases hlt : k < bs.length
            · have HDK := hide' (HDE.out k hlt wr HBE.out)
              go_wp2_with fail
              refine HDK.out.mono ?_
              rintro e w' ⟨⟨n, rfl, hdn⟩, hw'⟩
              obtain rfl := hw'.symm
              have hnb : n ≤ 20 := by
                by_cases h0 : n = 0
                · omega
                · obtain ⟨j, hj, hu⟩ := hdn.has h0
                  have := up_le HAH.out n j k hj hu
                  omega
              have hmb : 0 ≤ step * (n : Int) ∧ step * (n : Int) ≤ 20000000 := by
                refine ⟨Int.mul_nonneg HS0.out.1 (Int.natCast_nonneg n), ?_⟩
                have e1 : step * (n : Int) ≤ step * 20 := Int.mul_le_mul_of_nonneg_left (by omega) HS0.out.1
                have := HS0.out.2
                omega
              have HN2 : Hid (Some_ bs base step (T ++ [base + step * (n : Int)])) := HSO.out.snoc (by rw [hTk]; exact hdn)
              obtain ⟨z, hz⟩ : ∃ z, z = step * (n : Int) := ⟨_, rfl⟩
              rw [← hz] at hmb HN2
              have hw1 : IntKind.i64.wrap (step * (n : Int)) = z := by rw [← hz]; exact Go.IntWalk.i64_in _ (by omega)
              have hb0 := HB0.out
              have hw2 : IntKind.i64.wrap (base + z) = base + z := Go.IntWalk.i64_in _ (by omega)
              clear hdn hz
              go_wp2_with (at_builtin; refine wpList_append_own _ rfl _ _ 22 rfl w.heap.size 3 i0 (.int .i64 0) 1 8 Try.underlying22 hi0 hzz0 hzz1 hzz2 rfl (by decide) _ _ _ rfl (HOWN.out.alloc _) ⟨wr.heap.size, 0, none⟩ 1 1 [.int .i64 (base + z)] rfl rfl (cell_one_new _ _ _) (one_cell rfl) (by unfold maxLen; omega) (by omega) (by have := HBE.out.size; simp; omega) ?_; intro v' w2 hown' hgrow _; refine Still.go ?_)
              unfold Still
              have HOWN2 := hide' (own_snoc hown')
              have HB2 := hide' (below_app HBE.out HOWN.out (Nat.le_refl _) HBE.out.size hgrow)
              clear hown' hgrow
              go_wp2
              go_roundw
              case rel => exact ⟨k + 1, _, by go_num, by omega, by simp; omega, HN2, HOWN2, HB2⟩
              case measure => simp [intOf]; omega
            · have hle : T.length = bs.length := by omega
              have HTI : Hid (Timed bs base step 0 T) := deep_timed HAH.out HS0.out.1 hle (fun q hq => HSO.out q (by omega))
              have HE : Hid (wr.ownsRow w.heap.size 3 1 u9 bs.length (ints T)) := by have := HOWN.out; rw [hle] at this; exact this
              go_wp2
              exact HWO.out _ _ ⟨.inr (.inr ⟨HN.out, HGB.out, T, _, rfl, HTI.out, HE.out⟩), HBE.out⟩
end Go.Proofs.Ytpejnkngmnabfai
