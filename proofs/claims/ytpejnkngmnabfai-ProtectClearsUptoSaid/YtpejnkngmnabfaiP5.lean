/- Grade, in the program. -/
import Derived.Test.YtpejnkngmnabfaiP4
namespace Go.Proofs.Ytpejnkngmnabfai
open Go.RowKit Go.Shelf

def inB (x : Int) : Bool := decide (0 ≤ x) && decide (x ≤ 1000000)
theorem inB_iff {x : Int} : inB x = true ↔ 0 ≤ x ∧ x ≤ 1000000 := by unfold inB; simp
/-- May it be asked? -/
def gradeB (bs : List Int) (base step : Int) : Bool := aheadB bs 0 && (inB base && inB step)
/-- What Grade answers. -/
def GradeO (bs : List Int) (base step : Int) (w : World) (e : Ending) (w' : World) : Prop :=
  ((20 < bs.length ∧ e = .returned (.tuple #[.slice none 0 0, .int .i64 2])) ∨ (bs.length ≤ 20 ∧ gradeB bs base step = false ∧ e = .returned (.tuple #[.slice none 0 0, .int .i64 4])) ∨ (bs.length ≤ 20 ∧ gradeB bs base step = true ∧ ∃ T F, e = .returned (.tuple #[.slice (some ⟨F, 0, none⟩) bs.length bs.length, .int .i64 0]) ∧ Timed bs base step 0 T ∧ w'.ownsRow w.heap.size 3 1 (.slice (some ⟨F, 0, none⟩) bs.length bs.length) bs.length (ints T))) ∧ Below w.heap.size w w'
set_option maxRecDepth 100000 in
set_option maxHeartbeats 2000000 in
theorem Grade_any (bs : List Int) (base step : Int) (v : Value) (w : World) (hr : RowAt w v bs.length 1 (ints bs)) (hn : bs.length ≤ 9000000000000000000) : Calls Try.prog 8 #[v, .int .i64 base, .int .i64 step] w (GradeO bs base step w) := by
  have HWO : Hid (∀ e w', ((20 < bs.length ∧ e = .returned (.tuple #[.slice none 0 0, .int .i64 2])) ∨ (bs.length ≤ 20 ∧ gradeB bs base step = false ∧ e = .returned (.tuple #[.slice none 0 0, .int .i64 4])) ∨ (bs.length ≤ 20 ∧ gradeB bs base step = true ∧ ∃ T F, e = .returned (.tuple #[.slice (some ⟨F, 0, none⟩) bs.length bs.length, .int .i64 0]) ∧ Timed bs base step 0 T ∧ w'.ownsRow w.heap.size 3 1 (.slice (some ⟨F, 0, none⟩) bs.length bs.length) bs.length (ints T))) ∧ Below w.heap.size w w' → GradeO bs base step w e w') := fun _ _ h => h
  obtain ⟨R, hR⟩ : ∃ R, R = GradeO bs base step w := ⟨_, rfl⟩
  rw [← hR] at HWO ⊢
  clear hR
  have HAH := hide' (areAhead_any bs v w hr hn)
  have HUP : Hid (∀ x : Int, Calls Try.prog 19 #[.int .i64 1000000, .int .i64 x] w fun e w' => e = .returned (.bool (inB x)) ∧ w' = w) := fun x => isUpTo_any 1000000 x w
  obtain ⟨a, cap, rfl⟩ := rowAt_slice hr
  have HT : Hid (bs.length ≤ 20 → aheadB bs 0 = true → inB base = true → inB step = true → Calls Try.prog 20 #[.slice a bs.length cap, .int .i64 base, .int .i64 step] w fun e w' => ∃ T F, e = .returned (.slice (some ⟨F, 0, none⟩) bs.length bs.length) ∧ Timed bs base step 0 T ∧ w'.ownsRow w.heap.size 3 1 (.slice (some ⟨F, 0, none⟩) bs.length bs.length) bs.length (ints T) ∧ Below w.heap.size w w') := fun h1 h2 h3 h4 => times_any bs (aheadB_iff.1 h2) h1 base step (inB_iff.1 h3) (inB_iff.1 h4) a cap w hr
  have HGB : Hid (gradeB bs base step = (aheadB bs 0 && (inB base && inB step))) := rfl
  obtain ⟨ab, hab⟩ : ∃ x, x = aheadB bs 0 := ⟨_, rfl⟩
  obtain ⟨bb, hbb⟩ : ∃ x, x = inB base := ⟨_, rfl⟩
  obtain ⟨sb, hsb⟩ : ∃ x, x = inB step := ⟨_, rfl⟩
  have HUB := hide' (HUP.out base)
  have HUS := hide' (HUP.out step)
  rw [← hab] at HAH
  rw [← hab, ← hbb, ← hsb] at HT HGB
  rw [← hbb] at HUB
  rw [← hsb] at HUS
  rw [HGB.out] at HWO
  clear hab hbb hsb hr HUP HGB
  by_cases h20 : 20 < bs.length
  · go_enter Try.func8, Try.ntmps8
    go_wp2
    exact HWO.out _ _ ⟨.inl ⟨h20, rfl⟩, Below.refl _ _⟩
  have HN : Hid (bs.length ≤ 20) := by show _ ≤ _; omega
  go_enter Try.func8, Try.ntmps8
  go_wp2_with fail
  refine HAH.out.mono ?_
  rintro e w1 ⟨rfl, hw1⟩
  obtain rfl := hw1.symm
  cases ab with
  | false =>
    go_wp2
    exact HWO.out _ _ ⟨.inr (.inl ⟨HN.out, rfl, rfl⟩), Below.refl _ _⟩
  | true =>
    go_wp2_with fail
    refine HUB.out.mono ?_
    rintro e w1 ⟨rfl, hw1⟩
    obtain rfl := hw1.symm
    cases bb with
    | false =>
      go_wp2
      exact HWO.out _ _ ⟨.inr (.inl ⟨HN.out, rfl, rfl⟩), Below.refl _ _⟩
    | true =>
      go_wp2_with fail
      refine HUS.out.mono ?_
      rintro e w1 ⟨rfl, hw1⟩
      obtain rfl := hw1.symm
      cases sb with
      | false =>
        go_wp2
        exact HWO.out _ _ ⟨.inr (.inl ⟨HN.out, rfl, rfl⟩), Below.refl _ _⟩
      | true =>
        have HC := hide' (HT.out HN.out (by trivial) (by trivial) (by trivial))
        go_wp2_with fail
        refine HC.out.mono ?_
        rintro e w1 ⟨T, F, rfl, ht, ho, hb⟩
        have HTT := hide' ht
        have HO := hide' ho
        have HB := hide' hb
        clear ht ho hb
        go_wp2
        exact HWO.out _ _ ⟨.inr (.inr ⟨HN.out, rfl, T, F, rfl, HTT.out, HO.out⟩), HB.out⟩
end Go.Proofs.Ytpejnkngmnabfai
