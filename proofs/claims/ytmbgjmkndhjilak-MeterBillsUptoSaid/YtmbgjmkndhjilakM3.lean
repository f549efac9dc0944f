/- tenths, cents, Bill. -/
import Derived.Test.YtmbgjmkndhjilakM2
namespace Go.Proofs.Ytmbgjmkndhjilak.Mtr
open Go.RowKit Go.Shelf

def bD (l : List BandM) (k : Nat) : BandM := l.getD k ⟨0, 0⟩
theorem bD_get {l : List BandM} {k : Nat} (h : k < l.length) : bD l k = l[k] := by rw [bD, List.getD_eq_getElem?_getD, List.getElem?_eq_getElem h]; rfl
/-- Up to where band k is used. -/
def toK (u : Int) (l : List BandM) (k : Nat) : Int := if k + 1 = l.length then u else if (bD l k).to_ < u then (bD l k).to_ else u
/-- Cost and end of what is used, k bands done. -/
def sumK (u : Int) (l : List BandM) : Nat → Int × Int
  | 0 => (0, 0)
  | k + 1 => ((sumK u l k).1 + (toK u l k - (sumK u l k).2) * (bD l k).tenths, toK u l k)
structure BillOk (u : Int) (l : List BandM) : Prop where
  u0 : 0 ≤ u
  u1 : u ≤ 4294967295
  all : l.all bandB = true
  each : eachB belowB l = true
theorem BillOk.band {u : Int} {l : List BandM} (h : BillOk u l) {k : Nat} (hk : k < l.length) : 0 ≤ (bD l k).tenths ∧ (bD l k).tenths ≤ 100000 ∧ 1 ≤ (bD l k).to_ ∧ (bD l k).to_ ≤ 4294967295 := by
  have := List.all_eq_true.1 h.all _ (List.getElem_mem hk)
  rw [← bD_get hk, bandB, Bool.and_eq_true, withinB_iff, withinB_iff] at this
  omega
theorem BillOk.rise {u : Int} {l : List BandM} (h : BillOk u l) {k : Nat} (hk : k + 1 < l.length) : (bD l k).to_ < (bD l (k + 1)).to_ := by
  have := each_get l h.each k hk
  rw [← bD_get (by omega), ← bD_get hk] at this
  exact of_decide_eq_true this
theorem toK_le {u : Int} {l : List BandM} (h : BillOk u l) {k : Nat} (hk : k < l.length) : toK u l k ≤ u ∧ 0 ≤ toK u l k := by
  have := h.band hk
  have := h.u0
  unfold toK
  split
  · omega
  · split <;> omega
theorem from_le {u : Int} {l : List BandM} (h : BillOk u l) {k : Nat} (hk : k < l.length) : (sumK u l k).2 ≤ toK u l k := by
  cases k with
  | zero => exact (toK_le h hk).2
  | succ k =>
    show toK u l k ≤ _
    have hr := h.rise hk
    have h1 := toK_le h (k := k) (by omega)
    have e1 : toK u l k = if (bD l k).to_ < u then (bD l k).to_ else u := by unfold toK; rw [if_neg (by omega)]
    rw [e1]
    unfold toK
    repeat' split
    all_goals omega
theorem sum_ok {u : Int} {l : List BandM} (h : BillOk u l) : ∀ k, k ≤ l.length → 0 ≤ (sumK u l k).2 ∧ (sumK u l k).2 ≤ u ∧ 0 ≤ (sumK u l k).1 ∧ (sumK u l k).1 ≤ (sumK u l k).2 * 100000
  | 0, _ => by have := h.u0; simp [sumK]; omega
  | k + 1, hk => by
    have ih := sum_ok h k (by omega)
    have h1 := toK_le h (k := k) (by omega)
    have h2 := from_le h (k := k) (by omega)
    have h3 := h.band (k := k) (by omega)
    have e1 : (sumK u l (k + 1)).2 = toK u l k := rfl
    have e2 : (sumK u l (k + 1)).1 = (sumK u l k).1 + (toK u l k - (sumK u l k).2) * (bD l k).tenths := rfl
    rw [e1, e2]
    have m1 : 0 ≤ (toK u l k - (sumK u l k).2) * (bD l k).tenths := Int.mul_nonneg (by omega) h3.1
    have m2 : (toK u l k - (sumK u l k).2) * (bD l k).tenths ≤ (toK u l k - (sumK u l k).2) * 100000 := Int.mul_le_mul_of_nonneg_left h3.2.1 (by omega)
    generalize (toK u l k - (sumK u l k).2) * (bD l k).tenths = m at m1 m2 ⊢
    omega
theorem wrap_ok {x : Int} (h : -9223372036854775808 ≤ x ∧ x ≤ 9223372036854775807) : IntKind.i64.wrap x = x := Go.IntWalk.i64_in _ h
set_option maxRecDepth 100000 in
set_option maxHeartbeats 2000000 in
theorem tenths_any (u : Int) (l : List BandM) (v : Value) (w : World) (hx : RowAt w v l.length 2 (l.flatMap BandM.cells)) (hn : l.length ≤ 8) (ho : BillOk u l) :
    Calls Try.prog 41 #[.int .i64 u, v] w fun e w' => e = .returned (.int .i64 (sumK u l l.length).1) ∧ Below w.heap.size w w' := by
  have HX := hide' hx
  have HO := hide' ho
  obtain ⟨n, hn'⟩ : ∃ n, n = l.length := ⟨_, rfl⟩
  obtain ⟨ag, cg, rfl⟩ := rowAt_slice hx
  have HE := hide' hn'
  rw [← hn'] at hn HX ⊢
  clear hx ho hn'
  go_enter Try.func41, Try.ntmps41
  go_wp2_with fail
  go_loopw [5, 6, 12] (fun a b i wr => ∃ (k : Nat) (c f : Int), a = .int .i64 c ∧ b = .int .i64 f ∧ i = .int .i64 k ∧ k ≤ n ∧ Hid (sumK u l k = (c, f)) ∧ Hid (Below w.heap.size w wr)) (fun _ _ i _ => n - (intOf i).toNat)
  case atStart => exact ⟨0, 0, 0, rfl, rfl, rfl, Nat.zero_le _, rfl, Below.refl _ w⟩
  case round =>
    obtain ⟨k, c, f, rfl, rfl, rfl, hk, HS, HBE⟩ := hrel
    by_cases hlt : k < n
    · have hkl : k < l.length := by rw [← HE.out]; exact hlt
      obtain ⟨bt, ot, ct', ex, _, hct⟩ := row_elem band_len HX.out k hkl (by decide)
      simp only [Value.slice.injEq] at ex
      obtain ⟨rfl, _, rfl⟩ := ex
      have c0 : wr.cell? ⟨bt, ot + k * 2, none⟩ = some (.int .i64 (bD l k).to_) := by rw [bD_get hkl]; exact up_cell HBE.out (hct 0 _ rfl)
      have c1 : wr.cell? ⟨bt, ot + k * 2 + 1, none⟩ = some (.int .i64 (bD l k).tenths) := by rw [bD_get hkl]; exact up_cell HBE.out (hct 1 _ rfl)
      have h1 := toK_le HO.out hkl
      have h2 := from_le HO.out hkl
      have h3 := HO.out.band hkl
      have h4 := sum_ok HO.out k (by omega)
      have h5 := sum_ok HO.out (k + 1) (by omega)
      have e2 : (sumK u l (k + 1)) = ((sumK u l k).1 + (toK u l k - (sumK u l k).2) * (bD l k).tenths, toK u l k) := rfl
      rw [e2] at h5
      have e3 : toK u l k = if k + 1 = n then u else if (bD l k).to_ < u then (bD l k).to_ else u := by unfold toK; rw [HE.out]
      have hu1 := HO.out.u1
      rw [HS.out] at h2 h4 h5 e2
      obtain ⟨t, ht⟩ : ∃ x, x = toK u l k := ⟨_, rfl⟩
      rw [← ht] at h1 h2 h5 e2 e3
      obtain ⟨y0, hy0⟩ : ∃ x, x = (bD l k).to_ := ⟨_, rfl⟩
      obtain ⟨y1, hy1⟩ : ∃ x, x = (bD l k).tenths := ⟨_, rfl⟩
      rw [← hy0] at c0 h3 e3
      rw [← hy1] at c1 h3 h5 e2
      have HS2 : Hid (sumK u l (k + 1) = (c + (t - f) * y1, t)) := e2
      simp only at h2 h4 h5
      obtain ⟨m, hm⟩ : ∃ x, x = (t - f) * y1 := ⟨_, rfl⟩
      rw [← hm] at h5
      have w1 : IntKind.i64.wrap (t - f) = t - f := wrap_ok (by omega)
      have w2 : IntKind.i64.wrap ((t - f) * y1) = (t - f) * y1 := wrap_ok (by rw [← hm]; omega)
      have w3 : IntKind.i64.wrap (c + (t - f) * y1) = c + (t - f) * y1 := wrap_ok (by rw [← hm]; omega)
      clear h1 h2 h3 h4 h5 e2 hm ht hy0 hy1 HS hu1
      go_upto_region 6 with fail
      by_cases hl : (k : Int) + 1 = n
      · have htu : t = u := by rw [e3, if_pos (by omega)]
        subst htu
        clear e3
        have hl' : (k : Int) = (n : Int) - 1 := by omega
        go_wp2
        all_goals
          go_roundw
          case rel => exact ⟨k + 1, _, _, rfl, rfl, by first | go_num | (congr 1; omega), by omega, HS2, (HBE.out.trans ((below_al wr _).mono HBE.out.size))⟩
          case measure => simp [intOf]; omega
      · have hl' : ¬ (k : Int) = (n : Int) - 1 := by omega
        rw [if_neg (by omega)] at e3
        by_cases hc : y0 < u
        · rw [if_pos hc] at e3
          subst e3
          simp only [if_pos hc]
          go_wp2
          all_goals
            go_roundw
            case rel => exact ⟨k + 1, _, _, rfl, rfl, by first | go_num | (congr 1; omega), by omega, HS2, (HBE.out.trans ((below_al wr _).mono HBE.out.size))⟩
            case measure => simp [intOf]; omega
        · rw [if_neg hc] at e3
          subst e3
          simp only [if_neg hc]
          go_wp2
          all_goals
            go_roundw
            case rel => exact ⟨k + 1, _, _, rfl, rfl, by first | go_num | (congr 1; omega), by omega, HS2, (HBE.out.trans ((below_al wr _).mono HBE.out.size))⟩
            case measure => simp [intOf]; omega
    · obtain rfl : k = n := by omega
      have HC : Hid (c = (sumK u l k).1) := by rw [HS.out]; exact rfl
      go_wp2
      go_ret
      exact ⟨ret_int HC.out, HBE.out⟩
theorem cents_any (c : Int) (w : World) (h0 : 0 ≤ c) (h1 : c ≤ 1000000000000000) : Calls Try.prog 40 #[.int .i64 c] w fun e w' => e = .returned (.int .i64 ((c + 9) / 10)) ∧ w' = w := by
  have hw : IntKind.i64.wrap (c + 9) = c + 9 := wrap_ok (by omega)
  have ht : Int.tdiv (c + 9) 10 = (c + 9) / 10 := Int.tdiv_eq_ediv_of_nonneg (by omega)
  have hw2 : IntKind.i64.wrap ((c + 9) / 10) = (c + 9) / 10 := wrap_ok (by omega)
  go_enter Try.func40, Try.ntmps40
  go_wp2
  go_ret
  exact ⟨ret_int (by first | rfl | (rw [ht]) | (rw [ht, hw2])), rfl⟩
/-- What is billed: cents, and the fault. -/
def billF (u : Int) (l : List BandM) : Int × Int :=
  if l.length = 0 ∨ 8 < l.length then (0, 2) else if (withinB u 0 4294967295 && l.all bandB) = false then (0, 4) else if eachB belowB l = false then (0, 14) else (((sumK u l l.length).1 + 9) / 10, 0)
theorem bill_ok {u : Int} {l : List BandM} (h1 : withinB u 0 4294967295 = true) (h2 : l.all bandB = true) (h3 : eachB belowB l = true) : BillOk u l := by
  rw [withinB_iff] at h1
  exact ⟨h1.1, h1.2, h2, h3⟩
set_option maxRecDepth 100000 in
set_option maxHeartbeats 2000000 in
theorem Bill_any (u : Int) (l : List BandM) (v : Value) (w : World) (hx : RowAt w v l.length 2 (l.flatMap BandM.cells)) (hn : l.length ≤ 9000000000000000000) :
    Calls Try.prog 18 #[.int .i64 u, v] w fun e w' => e = .returned (.tuple #[.int .i64 (billF u l).1, .int .i64 (billF u l).2]) ∧ Below w.heap.size w w' := by
  obtain ⟨n, hn'⟩ : ∃ n, n = l.length := ⟨_, rfl⟩
  have HXB : Hid (∀ W, Below w.heap.size w W → RowAt W v l.length 2 (l.flatMap BandM.cells)) := fun W hb => hx.below hb (Nat.le_refl _)
  obtain ⟨ag, cg, rfl⟩ := rowAt_slice hx
  have HWI := hide' (within_any u 0 4294967295)
  have HA : Hid (∀ W, Below w.heap.size w W → Calls Try.prog 36 #[.slice ag l.length cg, .func (.func 37) #[] #[]] W fun e w' => e = .returned (.bool (l.all bandB)) ∧ Below W.heap.size W w') := fun W hb => allBand_any l _ W (HXB.out W hb) hn
  have HEA : Hid (∀ W, Below w.heap.size w W → Calls Try.prog 38 #[.slice ag l.length cg, .func (.func 39) #[] #[]] W fun e w' => e = .returned (.bool (eachB belowB l)) ∧ Below W.heap.size W w') := fun W hb => eachBand_any l _ W (HXB.out W hb) hn
  have HT : Hid (∀ W, Below w.heap.size w W → l.length ≤ 8 → BillOk u l → Calls Try.prog 41 #[.int .i64 u, .slice ag l.length cg] W fun e w' => e = .returned (.int .i64 (sumK u l l.length).1) ∧ Below W.heap.size W w') := fun W hb h8 ho => tenths_any u l _ W (HXB.out W hb) h8 ho
  have HSO : Hid (BillOk u l → 0 ≤ (sumK u l l.length).1 ∧ (sumK u l l.length).1 ≤ 1000000000000000) := fun h => by
    have h1 := sum_ok h l.length (Nat.le_refl _)
    have := h.u1
    omega
  have HOK : Hid (∀ a b c, withinB u 0 4294967295 = a → l.all bandB = b → eachB belowB l = c → a = true → b = true → c = true → BillOk u l) := fun a b c h1 h2 h3 ha hb hc => bill_ok (h1.trans ha) (h2.trans hb) (h3.trans hc)
  obtain ⟨B, hB⟩ : ∃ x, x = billF u l := ⟨_, rfl⟩
  have HBI := hide' hB
  rw [← hB]
  unfold billF at HBI
  obtain ⟨s, hs⟩ : ∃ x, x = (sumK u l l.length).1 := ⟨_, rfl⟩
  rw [← hs] at HT HSO HBI
  obtain ⟨q1, hq1⟩ : ∃ x, x = withinB u 0 4294967295 := ⟨_, rfl⟩
  obtain ⟨q2, hq2⟩ : ∃ x, x = l.all bandB := ⟨_, rfl⟩
  obtain ⟨q3, hq3⟩ : ∃ x, x = eachB belowB l := ⟨_, rfl⟩
  have HOK2 := hide' (HOK.out q1 q2 q3 hq1.symm hq2.symm hq3.symm)
  rw [← hq1, ← hq2, ← hq3] at HBI
  rw [← hq1] at HWI
  rw [← hq2] at HA
  rw [← hq3] at HEA
  rw [← hn'] at HBI HA HEA HT hn ⊢
  clear hq1 hq2 hq3 hs hB hx hn' HXB HOK
  go_enter Try.func18, Try.ntmps18
  by_cases h0 : (n : Int) = 0
  · have HR : Hid (B = (0, 2)) := by rw [HBI.out, if_pos (by omega)]; exact rfl
    go_wp2
    go_ret2
    exact ⟨by rw [HR.out]; exact rfl, Below.refl _ w⟩
  · by_cases h8 : (8 : Int) < n
    · have HR : Hid (B = (0, 2)) := by rw [HBI.out, if_pos (by omega)]; exact rfl
      go_wp2
      go_ret2
      exact ⟨by rw [HR.out]; exact rfl, Below.refl _ w⟩
    · have HBI2 : Hid (B = if (q1 && q2) = false then (0, 4) else if q3 = false then (0, 14) else ((s + 9) / 10, 0)) := by rw [HBI.out, if_neg (by omega)]; exact rfl
      have hn8 : n ≤ 8 := by omega
      clear HBI
      go_wp2_with fail
      refine (HWI.out w).mono ?_
      rintro e w1 ⟨rfl, hw1⟩
      obtain rfl := hw1.symm
      cases q1 with
      | false =>
        have HR : Hid (B = (0, 4)) := HBI2.out
        go_wp2
        go_ret2
        exact ⟨by rw [HR.out]; exact rfl, Below.refl _ _⟩
      | true =>
        go_wp2_with fail
        refine (HA.out _ (Below.refl _ _)).mono ?_
        rintro e w2 ⟨rfl, hb2⟩
        have HB2 := hide' hb2
        clear hb2
        cases q2 with
        | false =>
          have HR : Hid (B = (0, 4)) := HBI2.out
          go_wp2
          go_ret2
          exact ⟨by rw [HR.out]; exact rfl, HB2.out⟩
        | true =>
          go_wp2_with fail
          refine (HEA.out w2 HB2.out).mono ?_
          rintro e w3 ⟨rfl, hb3⟩
          have HB3 := hide' (HB2.out.trans (hb3.mono HB2.out.size))
          clear hb3 HB2
          cases q3 with
          | false =>
            have HR : Hid (B = (0, 14)) := HBI2.out
            go_wp2
            go_ret2
            exact ⟨by rw [HR.out]; exact rfl, HB3.out⟩
          | true =>
            have HR : Hid (B = ((s + 9) / 10, 0)) := HBI2.out
            have HOK3 : Hid (BillOk u l) := by have := HOK2.out; simp only [forall_const] at this; exact this
            have HCE := hide' (fun W => cents_any s W (HSO.out HOK3.out).1 (HSO.out HOK3.out).2)
            go_wp2_with fail
            refine (HT.out w3 HB3.out hn8 HOK3.out).mono ?_
            rintro e w4 ⟨rfl, hb4⟩
            have HB4 := hide' (HB3.out.trans (hb4.mono HB3.out.size))
            clear hb4 HB3
            go_wp2_with fail
            refine (HCE.out w4).mono ?_
            rintro e w5 ⟨rfl, hw5⟩
            obtain rfl := hw5.symm
            go_wp2
            go_ret2
            exact ⟨by rw [HR.out]; exact rfl, HB4.out⟩
end Go.Proofs.Ytmbgjmkndhjilak.Mtr
