/- sized, inOrder, picked, BinarySearch. -/
import Derived.Test.YtmbgjmkndhjilakN1
namespace Go.Proofs.Ytmbgjmkndhjilak
open Go.RowKit Go.Shelf

theorem nan19 (x : Int) (w : World) : Calls Try.prog 74 #[.int .i64 x] w fun e w' => e = .returned (.bool false) ∧ w' = w := by
  go_enter Try.func74, Try.ntmps74
  go_wp2
  go_ret
  exact ⟨by simp, rfl⟩
theorem nan18 (x : Int) (w : World) : Calls Try.prog 66 #[.int .i64 x] w fun e w' => e = .returned (.bool false) ∧ w' = w := by
  go_enter Try.func66, Try.ntmps66
  go_wp2
  go_ret
  exact ⟨by simp, rfl⟩
theorem less_any (x y : Int) (w : World) : Calls Try.prog 65 #[.int .i64 x, .int .i64 y] w fun e w' => e = .returned (.bool (decide (x < y))) ∧ w' = w := by
  have HN := hide' (nan19 x w)
  go_enter Try.func65, Try.ntmps65
  go_wp2_with fail
  refine HN.out.mono ?_
  rintro e w1 ⟨rfl, hw1⟩
  obtain rfl := hw1.symm
  go_wp2
  go_ret
  exact ⟨rfl, rfl⟩
/-- Place p: the first one of these that is not ahead of x. -/
structure AtP (ts : List Int) (x : Int) (p : Nat) : Prop where
  le : p ≤ ts.length
  lo : ∀ k, k < p → ts.getD k 0 < x
  hi : ∀ k, p ≤ k → k < ts.length → x ≤ ts.getD k 0
/-- What the search answers. -/
def SearchO (ts : List Int) (x : Int) (e : Ending) : Prop := ∃ (p : Nat) (b : Bool), e = .returned (.tuple #[.int .i64 p, .bool b]) ∧ AtP ts x p
def Sorted (ts : List Int) : Prop := ∀ a b, a ≤ b → b < ts.length → ts.getD a 0 ≤ ts.getD b 0
set_option maxRecDepth 100000 in
set_option maxHeartbeats 2000000 in
theorem search_any (ts : List Int) (x : Int) (v : Value) (w : World) (hx : RowAt w v ts.length 1 (ints ts)) (hn : ts.length ≤ 1000) (hs : Sorted ts) :
    Calls Try.prog 60 #[v, .int .i64 x] w fun e w' => SearchO ts x e ∧ w' = w := by
  have HX := hide' hx
  have HS := hide' hs
  have HL : Hid (∀ a W, Calls Try.prog 65 #[.int .i64 a, .int .i64 x] W fun e w' => e = .returned (.bool (decide (a < x))) ∧ w' = W) := fun a W => less_any a x W
  have HN : Hid (∀ a W, Calls Try.prog 66 #[.int .i64 a] W fun e w' => e = .returned (.bool false) ∧ w' = W) := nan18
  obtain ⟨ag, cg, rfl⟩ := rowAt_slice hx
  obtain ⟨n, hn'⟩ : ∃ n, n = ts.length := ⟨_, rfl⟩
  have HE := hide' hn'
  rw [← hn'] at hn HX ⊢
  clear hx hs hn'
  go_enter Try.func60, Try.ntmps60
  go_wp2_with fail
  go_loopw [7, 8] (fun a b wr => ∃ (lo hi : Nat), a = .int .i64 lo ∧ b = .int .i64 hi ∧ lo ≤ hi ∧ hi ≤ n ∧ Hid ((∀ k, k < lo → ts.getD k 0 < x) ∧ (∀ k, hi ≤ k → k < ts.length → x ≤ ts.getD k 0)) ∧ wr = w) (fun a b _ => (intOf b).toNat - (intOf a).toNat)
  case atStart => exact ⟨0, n, rfl, rfl, Nat.zero_le _, Nat.le_refl _, ⟨fun k h => absurd h (Nat.not_lt_zero k), fun k h1 h2 => by have := HE.out; omega⟩, rfl⟩
  case round =>
    obtain ⟨lo, hi, rfl, rfl, hlh, hin, HI, hwr⟩ := hrel
    obtain rfl := hwr.symm
    by_cases hlt : lo < hi
    · obtain ⟨m, hm⟩ : ∃ m, m = (lo + hi) / 2 := ⟨_, rfl⟩
      have hm1 : lo ≤ m := by omega
      have hm2 : m < hi := by omega
      have hmi : ((lo : Int) + (hi : Int)) / 2 = (m : Int) := by omega
      have hml : m < ts.length := by have := HE.out; omega
      obtain ⟨bt, ot, ct', ex, hct⟩ := ints_cell2 HX.out m hml
      simp only [Value.slice.injEq] at ex
      obtain ⟨rfl, _, rfl⟩ := ex
      have HLO : Hid (ts.getD m 0 < x → ∀ k, k < m + 1 → ts.getD k 0 < x) := fun h k hk => Int.lt_of_le_of_lt (HS.out k m (by omega) hml) h
      have HHI : Hid (¬ ts.getD m 0 < x → ∀ k, m ≤ k → k < ts.length → x ≤ ts.getD k 0) := fun h k hk hl => Int.le_trans (by omega) (HS.out m k hk hl)
      obtain ⟨y, hy⟩ : ∃ y, y = ts.getD m 0 := ⟨_, rfl⟩
      rw [← hy] at hct HLO HHI
      clear hy hm
      go_upto_region 5 with fail
      try simp only [hmi]
      clear hmi
      go_wp2_with fail
      refine (HL.out y w).mono ?_
      rintro e w1 ⟨rfl, hw1⟩
      obtain rfl := hw1.symm
      by_cases hyx : y < x
      · have HA := hide' (HLO.out hyx)
        go_wp2
        go_roundw
        case rel => exact ⟨m + 1, hi, by go_num, rfl, by omega, hin, ⟨HA.out, HI.out.2⟩, trivial⟩
        case measure => simp [intOf]; omega
      · have HA := hide' (HHI.out (by omega))
        go_wp2
        go_roundw
        case rel => exact ⟨lo, m, rfl, rfl, by omega, by omega, ⟨HI.out.1, HA.out⟩, trivial⟩
        case measure => simp [intOf]; omega
    · obtain rfl : lo = hi := by omega
      have HA : Hid (AtP ts x lo) := ⟨by rw [← HE.out]; exact hin, HI.out.1, HI.out.2⟩
      by_cases hl : lo < n
      · have hml : lo < ts.length := by have := HE.out; omega
        obtain ⟨bt, ot, ct', ex, hct⟩ := ints_cell2 HX.out lo hml
        simp only [Value.slice.injEq] at ex
        obtain ⟨rfl, _, rfl⟩ := ex
        obtain ⟨y, hy⟩ : ∃ y, y = ts.getD lo 0 := ⟨_, rfl⟩
        rw [← hy] at hct
        have HNY := hide' (HN.out y w)
        clear hy
        by_cases hyx : y = x
        · subst hyx
          go_wp2
          go_ret2
          exact ⟨⟨lo, _, rfl, HA.out⟩, rfl⟩
        · go_wp2_with fail
          refine HNY.out.mono ?_
          rintro e w1 ⟨rfl, hw1⟩
          obtain rfl := hw1.symm
          go_wp2
          go_ret2
          exact ⟨⟨lo, _, rfl, HA.out⟩, rfl⟩
      · go_wp2
        go_ret2
        exact ⟨⟨lo, _, rfl, HA.out⟩, rfl⟩
def sizedB (n m : Nat) : Bool := withinB n 1 50 && decide (m = n)
set_option maxRecDepth 100000 in
theorem sized_any (a b : Option Addr) (n m c d : Nat) (w : World) : Calls Try.prog 29 #[.agg #[.slice a n c, .slice b m d]] w fun e w' => e = .returned (.bool (sizedB n m)) ∧ Below w.heap.size w w' := by
  have HW := hide' (within_any n 1 50)
  obtain ⟨Z, hZ⟩ : ∃ x, x = sizedB n m := ⟨_, rfl⟩
  have HZ : Hid (Z = (withinB n 1 50 && decide (m = n))) := hZ
  rw [← hZ]
  obtain ⟨q1, hq1⟩ : ∃ x, x = withinB n 1 50 := ⟨_, rfl⟩
  rw [← hq1] at HW HZ
  clear hZ hq1
  go_enter Try.func29, Try.ntmps29
  go_upto_region 1 with fail
  have HB := hide' (below_al w (.cells #[.slice a n c, .slice b m d] 67))
  have hq := alloc_new w (.cells #[.slice a n c, .slice b m d] 67)
  obtain ⟨w1, hw1⟩ : ∃ x, x = w.alloc (.cells #[.slice a n c, .slice b m d] 67) := ⟨_, rfl⟩
  rw [← hw1] at HB hq ⊢
  have y0 : w1.cell? ⟨w.heap.size, 0, none⟩ = some (.slice a n c) := (cells_at hq 0).trans rfl
  have y1 : w1.cell? ⟨w.heap.size, 1, none⟩ = some (.slice b m d) := (cells_at hq 1).trans rfl
  clear hq hw1
  go_wp2_with fail
  refine (HW.out w1).mono ?_
  rintro e z ⟨rfl, hz⟩
  obtain rfl := hz.symm
  cases q1 with
  | false =>
    go_wp2
    go_ret
    exact ⟨by rw [HZ.out]; rfl, HB.out⟩
  | true =>
    go_wp2
    all_goals
      go_ret
      exact ⟨ret_bool (by rw [HZ.out, Bool.true_and, Bool.eq_iff_iff]; simp; try omega), HB.out⟩
def orderB (ts vs : List Int) : Bool := eachB ltB ts && eachB leB vs
set_option maxRecDepth 100000 in
theorem inOrder_any (ts vs : List Int) (u v : Value) (w : World) (hu : RowAt w u ts.length 1 (ints ts)) (hv : RowAt w v vs.length 1 (ints vs)) (hn : ts.length ≤ 9000000000000000000) (hm : vs.length ≤ 9000000000000000000) : Calls Try.prog 31 #[.agg #[u, v]] w fun e w' => e = .returned (.bool (orderB ts vs)) ∧ Below w.heap.size w w' := by
  have HU : Hid (∀ W, Below w.heap.size w W → Calls Try.prog 57 #[u, .func (.func 58) #[] #[]] W fun e w' => e = .returned (.bool (eachB ltB ts)) ∧ Below W.heap.size W w') := fun W hb => eachLt_any ts u W (hu.below hb (Nat.le_refl _)) hn
  have HV : Hid (∀ W, Below w.heap.size w W → Calls Try.prog 57 #[v, .func (.func 59) #[] #[]] W fun e w' => e = .returned (.bool (eachB leB vs)) ∧ Below W.heap.size W w') := fun W hb => eachLe_any vs v W (hv.below hb (Nat.le_refl _)) hm
  obtain ⟨au, cu, rfl⟩ := rowAt_slice hu
  obtain ⟨av, cv, rfl⟩ := rowAt_slice hv
  obtain ⟨Z, hZ⟩ : ∃ x, x = orderB ts vs := ⟨_, rfl⟩
  have HZ : Hid (Z = (eachB ltB ts && eachB leB vs)) := hZ
  rw [← hZ]
  obtain ⟨q1, hq1⟩ : ∃ x, x = eachB ltB ts := ⟨_, rfl⟩
  obtain ⟨q2, hq2⟩ : ∃ x, x = eachB leB vs := ⟨_, rfl⟩
  rw [← hq1] at HU HZ
  rw [← hq2] at HV HZ
  clear hZ hq1 hq2 hu hv
  go_enter Try.func31, Try.ntmps31
  go_upto_region 1 with fail
  have HB := hide' (below_al w (.cells #[.slice au ts.length cu, .slice av vs.length cv] 67))
  have hq := alloc_new w (.cells #[.slice au ts.length cu, .slice av vs.length cv] 67)
  obtain ⟨w1, hw1⟩ : ∃ x, x = w.alloc (.cells #[.slice au ts.length cu, .slice av vs.length cv] 67) := ⟨_, rfl⟩
  rw [← hw1] at HB hq ⊢
  have y0 : w1.cell? ⟨w.heap.size, 0, none⟩ = some (.slice au ts.length cu) := (cells_at hq 0).trans rfl
  have y1 : w1.cell? ⟨w.heap.size, 1, none⟩ = some (.slice av vs.length cv) := (cells_at hq 1).trans rfl
  clear hq hw1
  go_wp2_with fail
  refine (HU.out w1 HB.out).mono ?_
  rintro e z ⟨rfl, hz⟩
  have HB2 := hide' (HB.out.trans (hz.mono HB.out.size))
  cases q1 with
  | false =>
    clear hz
    go_wp2
    go_ret
    exact ⟨by rw [HZ.out]; rfl, HB2.out⟩
  | true =>
    have y2 := up_cell hz y1
    clear hz
    go_wp2_with fail
    refine (HV.out z HB2.out).mono ?_
    rintro e z3 ⟨rfl, hz3⟩
    have HB3 := hide' (HB2.out.trans (hz3.mono HB2.out.size))
    clear hz3
    go_wp2
    go_ret
    exact ⟨by rw [HZ.out]; rfl, HB3.out⟩
end Go.Proofs.Ytmbgjmkndhjilak
