/- Run. -/
import Derived.Test.YtnhddmcdmcpkeajWa
namespace Go.Proofs.Ytnhddmcdmcpkeaj
open Go.RowKit Go.Shelf

def sizeOk (L : Nat) (ti tr : List (List Int)) : Bool := sizedB L ti && sizedB L tr && decide (tr.length = ti.length)
/-- What Run answers. -/
def RunF (ls : List LakeM) (ti tr : List (List Int)) (w : World) (e : Ending) (w' : World) : Prop :=
  ((sizeOk ls.length ti tr = false ∧ e = .returned (.tuple #[.slice none 0 0, .slice none 0 0, .int .i64 2])) ∨
   (sizeOk ls.length ti tr = true ∧ ls.all lakeB = false ∧ e = .returned (.tuple #[.slice none 0 0, .slice none 0 0, .int .i64 14])) ∨
   (sizeOk ls.length ti tr = true ∧ ls.all lakeB = true ∧ comeB ti = false ∧ e = .returned (.tuple #[.slice none 0 0, .slice none 0 0, .int .i64 4])) ∨
   (sizeOk ls.length ti tr = true ∧ ls.all lakeB = true ∧ comeB ti = true ∧
    ((runK ls ls.length ti tr ti.length = none ∧ e = .returned (.tuple #[.slice none 0 0, .slice none 0 0, .int .i64 15])) ∨ ∃ r v1 v2, runK ls ls.length ti tr ti.length = some r ∧ e = .returned (.tuple #[v1, v2, .int .i64 0]) ∧ StepsAt w' w.heap.size v1 r.lv ∧ StepsAt w' w.heap.size v2 r.sp))) ∧ Below w.heap.size w w'
theorem sized_iff {L : Nat} {t : List (List Int)} : sizedB L t = true ↔ L ≤ 2 ∧ t.length ≤ 8 ∧ ∀ l ∈ t, l.length = L := by
  unfold sizedB
  simp only [Bool.and_eq_true, decide_eq_true_eq, List.all_eq_true]
  exact ⟨fun h => ⟨h.1.1, h.1.2, h.2⟩, fun h => ⟨⟨h.1, h.2.1⟩, h.2.2⟩⟩
theorem come_iff {t : List (List Int)} : comeB t = true ↔ ∀ l ∈ t, ∀ x ∈ l, 0 ≤ x ∧ x ≤ 10 := by
  unfold comeB withinB
  simp only [List.all_eq_true, Bool.and_eq_true, decide_eq_true_eq]
theorem run_ok {ls : List LakeM} {ti tr : List (List Int)} {al ai ar : Option Addr} {cl ci cr : Nat} {w : World} (hx : RowAt w (.slice al ls.length cl) ls.length 5 (ls.flatMap LakeM.cells)) (hti : TabAt w (.slice ai ti.length ci) ti) (htr : TabAt w (.slice ar tr.length cr) tr) (h1 : sizeOk ls.length ti tr = true) (h2 : ls.all lakeB = true) (h3 : comeB ti = true) :
    Calls Try.prog 40 #[.agg #[.slice al ls.length cl, .slice ai ti.length ci], .slice ar tr.length cr] w fun e w' => RunO ls ls.length ti tr ti.length w e w' := by
  unfold sizeOk at h1
  simp only [Bool.and_eq_true, decide_eq_true_eq] at h1
  obtain ⟨⟨q1, q2⟩, q3⟩ := h1
  have s1 := sized_iff.1 q1
  have s2 := sized_iff.1 q2
  rw [q3] at htr ⊢
  exact run_any ls (fun k hk => lakeB_iff.1 (List.all_eq_true.1 h2 k hk)) ti tr al ai ar ls.length ti.length cl ci cr w hx rfl s1.1 hti htr rfl q3 s1.2.1 s1.2.2 s2.2.2 (come_iff.1 h3)
set_option maxRecDepth 100000 in
set_option maxHeartbeats 4000000 in
theorem Run_any (ls : List LakeM) (ti tr : List (List Int)) (al ai ar : Option Addr) (cl ci cr : Nat) (w : World) (hx : RowAt w (.slice al ls.length cl) ls.length 5 (ls.flatMap LakeM.cells)) (hti : TabAt w (.slice ai ti.length ci) ti) (htr : TabAt w (.slice ar tr.length cr) tr) (b1 : ls.length ≤ 9000000000000000000) (b2 : ti.length ≤ 9000000000000000000) (b3 : tr.length ≤ 9000000000000000000) (b4 : ∀ l ∈ ti, l.length ≤ 9000000000000000000) :
    Calls Try.prog 22 #[.slice al ls.length cl, .slice ai ti.length ci, .slice ar tr.length cr] w (RunF ls ti tr w) := by
  obtain ⟨PO, hPO⟩ : ∃ P, P = RunF ls ti tr w := ⟨_, rfl⟩
  rw [← hPO]
  have HPO : Hid (∀ e w', RunF ls ti tr w e w' → PO e w') := fun e w' h => by rw [hPO]; exact h
  have HS1 : Hid (∀ W, Below w.heap.size w W → Calls Try.prog 36 #[.slice al ls.length cl, .slice ai ti.length ci] W fun e w' => e = .returned (.bool (sizedB ls.length ti)) ∧ Below W.heap.size W w') := fun W hb => sized_any ls.length al cl ti _ W (hti.below hb (Nat.le_refl _)) b2 b1
  have HS2 : Hid (∀ W, Below w.heap.size w W → Calls Try.prog 36 #[.slice al ls.length cl, .slice ar tr.length cr] W fun e w' => e = .returned (.bool (sizedB ls.length tr)) ∧ Below W.heap.size W w') := fun W hb => sized_any ls.length al cl tr _ W (htr.below hb (Nat.le_refl _)) b3 b1
  have HAL : Hid (∀ W, Below w.heap.size w W → Calls Try.prog 37 #[.slice al ls.length cl, .func (.func 38) #[] #[]] W fun e w' => e = .returned (.bool (ls.all lakeB)) ∧ Below W.heap.size W w') := fun W hb => allLake_any ls _ W (hx.below hb (Nat.le_refl _)) b1
  have HCO : Hid (∀ W, Below w.heap.size w W → Calls Try.prog 39 #[.slice ai ti.length ci] W fun e w' => e = .returned (.bool (comeB ti)) ∧ Below W.heap.size W w') := fun W hb => mayCome_any ti _ W (hti.below hb (Nat.le_refl _)) b2 b4
  have HRU : Hid (∀ W, Below w.heap.size w W → sizeOk ls.length ti tr = true → ls.all lakeB = true → comeB ti = true → Calls Try.prog 40 #[.agg #[.slice al ls.length cl, .slice ai ti.length ci], .slice ar tr.length cr] W fun e w' => RunO ls ls.length ti tr ti.length W e w') := fun W hb h1 h2 h3 => run_ok (hx.below hb (Nat.le_refl _)) (hti.below hb (Nat.le_refl _)) (htr.below hb (Nat.le_refl _)) h1 h2 h3
  have HSZ : Hid (sizeOk ls.length ti tr = (sizedB ls.length ti && sizedB ls.length tr && decide (tr.length = ti.length))) := rfl
  obtain ⟨L, hL⟩ : ∃ x, x = ls.length := ⟨_, rfl⟩
  obtain ⟨Hi, hHi⟩ : ∃ x, x = ti.length := ⟨_, rfl⟩
  obtain ⟨Hr, hHr⟩ : ∃ x, x = tr.length := ⟨_, rfl⟩
  obtain ⟨q1, hq1⟩ : ∃ x, x = sizedB ls.length ti := ⟨_, rfl⟩
  obtain ⟨q2, hq2⟩ : ∃ x, x = sizedB ls.length tr := ⟨_, rfl⟩
  obtain ⟨q3, hq3⟩ : ∃ x, x = ls.all lakeB := ⟨_, rfl⟩
  obtain ⟨q4, hq4⟩ : ∃ x, x = comeB ti := ⟨_, rfl⟩
  rw [← hq1] at HS1 HSZ
  rw [← hq2] at HS2 HSZ
  rw [← hq3] at HAL HRU
  rw [← hq4] at HCO HRU
  rw [← hL, ← hHi] at HS1
  rw [← hL, ← hHr] at HS2
  rw [← hL] at HAL
  rw [← hHi] at HCO
  rw [← hL, ← hHi, ← hHr] at HSZ
  rw [← hL, ← hHi, ← hHr]
  have HE2 : Hid (sizeOk L ti tr = false → ∀ W, Below w.heap.size w W → PO (.returned (.tuple #[.slice none 0 0, .slice none 0 0, .int .i64 2])) W) := fun h W hb => HPO.out _ _ ⟨.inl ⟨by rw [← hL]; exact h, rfl⟩, hb⟩
  have HE14 : Hid (sizeOk L ti tr = true → q3 = false → ∀ W, Below w.heap.size w W → PO (.returned (.tuple #[.slice none 0 0, .slice none 0 0, .int .i64 14])) W) := fun h h3 W hb => HPO.out _ _ ⟨.inr (.inl ⟨by rw [← hL]; exact h, by rw [← hq3]; exact h3, rfl⟩), hb⟩
  have HE4 : Hid (sizeOk L ti tr = true → q3 = true → q4 = false → ∀ W, Below w.heap.size w W → PO (.returned (.tuple #[.slice none 0 0, .slice none 0 0, .int .i64 4])) W) := fun h h3 h4 W hb => HPO.out _ _ ⟨.inr (.inr (.inl ⟨by rw [← hL]; exact h, by rw [← hq3]; exact h3, by rw [← hq4]; exact h4, rfl⟩)), hb⟩
  have HR : Hid (sizeOk L ti tr = true → q3 = true → q4 = true → ∀ W, Below w.heap.size w W → Calls Try.prog 40 #[.agg #[.slice al L cl, .slice ai Hi ci], .slice ar Hr cr] W fun e w' => ∃ v1 v2 c, e = .returned (.tuple #[v1, v2, .int .i64 c]) ∧ PO e w') := fun h h3 h4 W hb => by
    have hrun := HRU.out W hb (by rw [← hL]; exact h) h3 h4
    rw [← hL, ← hHi, ← hHr] at hrun
    refine hrun.mono ?_
    rintro e w' ⟨hcase, hb2⟩
    have hbw := hb.trans (hb2.mono hb.size)
    rcases hcase with ⟨hn, rfl⟩ | ⟨r, v1, v2, hr, rfl, ha, hb'⟩
    · exact ⟨_, _, _, rfl, HPO.out _ _ ⟨.inr (.inr (.inr ⟨by rw [← hL]; exact h, by rw [← hq3]; exact h3, by rw [← hq4]; exact h4, .inl ⟨by rw [← hL, ← hHi]; exact hn, rfl⟩⟩)), hbw⟩⟩
    · obtain ⟨va, g1, g2, g3⟩ := ha
      obtain ⟨vb, k1, k2, k3⟩ := hb'
      exact ⟨_, _, _, rfl, HPO.out _ _ ⟨.inr (.inr (.inr ⟨by rw [← hL]; exact h, by rw [← hq3]; exact h3, by rw [← hq4]; exact h4, .inr ⟨r, v1, v2, by rw [← hL, ← hHi]; exact hr, rfl, ⟨va, g1, own_mono g2 hb.size, fun j x l hx hl => own_mono (g3 j x l hx hl) hb.size⟩, ⟨vb, k1, own_mono k2 hb.size, fun j x l hx hl => own_mono (k3 j x l hx hl) hb.size⟩⟩⟩)), hbw⟩⟩
  have HLN : Hid (L = ls.length ∧ Hi = ti.length ∧ Hr = tr.length) := ⟨hL, hHi, hHr⟩
  rw [← hL] at b1
  rw [← hHi] at b2
  rw [← hHr] at b3
  clear hPO hx hti htr b4 HRU hL hHi hHr hq1 hq2 hq3 hq4 HPO HLN
  go_enter Try.func22, Try.ntmps22
  go_wp2_with fail
  refine (HS1.out w (Below.refl _ w)).mono ?_
  rintro e w1 ⟨rfl, hb1⟩
  have HB1 := hide' hb1
  clear hb1 HS1
  cases q1 with
  | false =>
    have HF := hide' (HE2.out (by rw [HSZ.out]; rfl) w1 HB1.out)
    go_wp2_with fail
    go_ret3
    exact HF.out
  | true =>
    go_wp2_with fail
    refine (HS2.out w1 HB1.out).mono ?_
    rintro e w2 ⟨rfl, hb2⟩
    have HB2 : Hid (Below w.heap.size w w2) := HB1.out.trans (hb2.mono HB1.out.size)
    clear hb2 HS2 HB1
    cases q2 with
    | false =>
      have HF := hide' (HE2.out (by rw [HSZ.out]; rfl) w2 HB2.out)
      go_wp2_with fail
      go_ret3
      exact HF.out
    | true =>
      by_cases hh : Hr = Hi
      · have hso : sizeOk L ti tr = true := by rw [HSZ.out, hh]; simp
        have HSO := hide' hso
        have hne : ((Hr : Int) != (Hi : Int)) = false := by rw [hh]; simp
        clear hso
        subst hh
        go_wp2_with fail
        refine (HAL.out w2 HB2.out).mono ?_
        rintro e w3 ⟨rfl, hb3⟩
        have HB3 : Hid (Below w.heap.size w w3) := HB2.out.trans (hb3.mono HB2.out.size)
        clear hb3 HAL HB2
        cases q3 with
        | false =>
          have HF := hide' (HE14.out HSO.out rfl w3 HB3.out)
          go_wp2_with fail
          go_ret3
          exact HF.out
        | true =>
          go_wp2_with fail
          refine (HCO.out w3 HB3.out).mono ?_
          rintro e w4 ⟨rfl, hb4⟩
          have HB4 : Hid (Below w.heap.size w w4) := HB3.out.trans (hb4.mono HB3.out.size)
          clear hb4 HCO HB3
          cases q4 with
          | false =>
            have HF := hide' (HE4.out HSO.out (by first | rfl | trivial) (by first | rfl | trivial) w4 HB4.out)
            go_wp2_with fail
            go_ret3
            exact HF.out
          | true =>
            have HRR := hide' (HR.out HSO.out (by first | rfl | trivial) (by first | rfl | trivial) w4 HB4.out)
            go_wp2_with fail
            refine HRR.out.mono ?_
            rintro e w5 ⟨v1, v2, c, rfl, hpo⟩
            have HF := hide' hpo
            clear hpo
            go_wp2_with fail
            go_ret3
            exact HF.out
      · have HF := hide' (HE2.out (by rw [HSZ.out]; simp [hh]) w2 HB2.out)
        have hne : ((Hr : Int) != (Hi : Int)) = true := by simp; omega
        clear hh
        go_wp2_with fail
        go_ret3
        exact HF.out
end Go.Proofs.Ytnhddmcdmcpkeaj
