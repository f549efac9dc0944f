/- Billed: the document's answer. -/
import Derived.Test.YtmbgjmkndhjilakM3
namespace Go.Proofs.Ytmbgjmkndhjilak.Mtr
open Go.RowKit Go.Shelf

theorem bandB_cells {x0 x1 : Int} : bandB ⟨x0, x1⟩ = (withinB x1 0 100000 && withinB x0 1 4294967295) := rfl
theorem cents_doc {s : Int} : (s + 9) / 10 = if 0 < s % 10 then s / 10 + 1 else s / 10 := by
  split <;> omega
set_option maxRecDepth 100000 in
set_option maxHeartbeats 4000000 in
theorem Billed_any (u : Int) (l : List BandM) (v : Value) (w : World) (hx : RowAt w v l.length 2 (l.flatMap BandM.cells)) (hn : l.length ≤ 9000000000000000000) :
    Calls Try.prog 19 #[.int .i64 u, v] w fun e w' => e = .returned (.tuple #[.int .i64 (billF u l).1, .int .i64 (billF u l).2]) ∧ Below w.heap.size w w' := by
  obtain ⟨n, hn'⟩ : ∃ n, n = l.length := ⟨_, rfl⟩
  have HX := hide' hx
  obtain ⟨ag, cg, rfl⟩ := rowAt_slice hx
  have HIB : Hid (∀ x a b W, Calls Try.prog 33 #[.int .i64 x, .int .i64 a, .int .i64 b] W fun e w' => e = .returned (.bool (withinB x a b)) ∧ w' = W) := inBounds_any
  obtain ⟨B, hB⟩ : ∃ x, x = billF u l := ⟨_, rfl⟩
  have HBI := hide' hB
  rw [← hB]
  unfold billF at HBI
  have HE := hide' hn'
  rw [← hn'] at HBI HX hn ⊢
  have HOK : Hid (∀ q1, q1 = withinB u 0 4294967295 → q1 = true → l.all bandB = true → eachB belowB l = true → BillOk u l) := fun q1 h1 ha hb hc => bill_ok (h1.symm.trans ha) hb hc
  obtain ⟨q1, hq1⟩ : ∃ x, x = withinB u 0 4294967295 := ⟨_, rfl⟩
  have HIU := hide' (HIB.out u 0 4294967295)
  have HOK2 := hide' (HOK.out q1 hq1)
  rw [← hq1] at HIU HBI
  have HIN := hide' (HIB.out n 1 8)
  obtain ⟨q0, hq0⟩ : ∃ x, x = withinB n 1 8 := ⟨_, rfl⟩
  rw [← hq0] at HIN
  clear hq1 hB hx hn' HOK
  go_enter Try.func19, Try.ntmps19
  go_wp2_with fail
  refine (HIN.out w).mono ?_
  rintro e w1 ⟨rfl, hw1⟩
  obtain rfl := hw1.symm
  cases q0 with
  | false =>
    have HR : Hid (B = (0, 2)) := by
      rw [HBI.out, if_pos]
      · exact rfl
      · have h1 : ¬ (1 ≤ (n : Int) ∧ (n : Int) ≤ 8) := fun h => by rw [← withinB_iff, ← hq0] at h; cases h
        omega
    clear hq0
    go_wp2
    go_ret2
    exact ⟨by rw [HR.out]; exact rfl, Below.refl _ _⟩
  | true =>
    have h18 := withinB_iff.1 hq0.symm
    have HBI2 : Hid (B = if (q1 && l.all bandB) = false then (0, 4) else if eachB belowB l = false then (0, 14) else (((sumK u l n).1 + 9) / 10, 0)) := by rw [HBI.out, if_neg (by omega)]; exact rfl
    have hn8 : n ≤ 8 := by omega
    clear hq0 h18 HBI
    go_wp2_with fail
    refine (HIU.out _).mono ?_
    rintro e w2 ⟨rfl, hw2⟩
    obtain rfl := hw2.symm
    cases q1 with
    | false =>
      have HR : Hid (B = (0, 4)) := HBI2.out
      go_wp2
      go_ret2
      exact ⟨by rw [HR.out]; exact rfl, Below.refl _ _⟩
    | true =>
      have HBI3 : Hid (B = if l.all bandB = false then (0, 4) else if eachB belowB l = false then (0, 14) else (((sumK u l n).1 + 9) / 10, 0)) := by rw [HBI2.out, Bool.true_and]; exact rfl
      clear HBI2
      go_wp2_with fail
      go_loopw [6] (fun i wr => ∃ (k : Nat), i = .int .i64 k ∧ k ≤ n ∧ Hid (∀ j (hj : j < l.length), j < k → bandB l[j] = true) ∧ wr = w) (fun i _ => n - (intOf i).toNat)
      case atStart => exact ⟨0, rfl, Nat.zero_le _, fun j _ h => absurd h (Nat.not_lt_zero j), rfl⟩
      case round =>
        obtain ⟨k, rfl, hk, HAL, hwr⟩ := hrel
        obtain rfl := hwr.symm
        by_cases hlt : k < n
        · have hkl : k < l.length := by rw [← HE.out]; exact hlt
          obtain ⟨bt, ot, ct', ex, _, hct⟩ := row_elem band_len HX.out k hkl (by decide)
          simp only [Value.slice.injEq] at ex
          obtain ⟨rfl, _, rfl⟩ := ex
          have HNX := hide' (all_next (p := bandB) hkl HAL.out)
          have HNO := hide' (all_no (p := bandB) hkl)
          have c0 : w.cell? ⟨bt, ot + k * 2, none⟩ = some (.int .i64 (l[k]).to_) := hct 0 _ rfl
          have c1 : w.cell? ⟨bt, ot + k * 2 + 1, none⟩ = some (.int .i64 (l[k]).tenths) := hct 1 _ rfl
          obtain ⟨x, hx⟩ : ∃ x, x = l[k] := ⟨_, rfl⟩
          rw [← hx] at c0 c1 HNX HNO
          obtain ⟨x0, x1⟩ := x
          simp only at c0 c1
          rw [bandB_cells] at HNX HNO
          obtain ⟨p1, hp1⟩ : ∃ x, x = withinB x1 0 100000 := ⟨_, rfl⟩
          obtain ⟨p2, hp2⟩ : ∃ x, x = withinB x0 1 4294967295 := ⟨_, rfl⟩
          have HI1 := hide' (HIB.out x1 0 100000 w)
          have HI2 := hide' (HIB.out x0 1 4294967295 w)
          rw [← hp1] at HI1 HNX HNO
          rw [← hp2] at HI2 HNX HNO
          clear hx hct hp1 hp2 hkl
          go_wp2_with fail
          refine HI1.out.mono ?_
          rintro e w3 ⟨rfl, hw3⟩
          obtain rfl := hw3.symm
          cases p1 with
          | false =>
            have HR : Hid (B = (0, 4)) := by rw [HBI3.out, if_pos (HNO.out rfl)]; exact rfl
            go_wp2
            go_ret2
            exact ⟨by rw [HR.out]; exact rfl, Below.refl _ _⟩
          | true =>
            go_wp2_with fail
            refine HI2.out.mono ?_
            rintro e w3 ⟨rfl, hw3⟩
            obtain rfl := hw3.symm
            cases p2 with
            | false =>
              have HR : Hid (B = (0, 4)) := by rw [HBI3.out, if_pos (HNO.out rfl)]; exact rfl
              go_wp2
              go_ret2
              exact ⟨by rw [HR.out]; exact rfl, Below.refl _ _⟩
            | true =>
              have HY := hide' (HNX.out rfl)
              go_wp2
              go_roundw
              case rel => exact ⟨k + 1, by go_num, by omega, HY.out, trivial⟩
              case measure => simp [intOf]; omega
        · have HAY := hide' (all_yes (p := bandB) (by rw [← HE.out]; omega) HAL.out)
          have HBI4 : Hid (B = if eachB belowB l = false then (0, 14) else (((sumK u l n).1 + 9) / 10, 0)) := by rw [HBI3.out, if_neg (by rw [HAY.out]; decide)]; exact rfl
          clear HBI3 HAL hk
          go_wp2_with fail
          clear hlt
          go_loopw [7] (fun i wr => ∃ (k : Nat), i = .int .i64 k ∧ k ≤ n ∧ Hid (∀ j (hj : j + 1 < l.length), j + 1 < k + 1 → belowB l[j] l[j + 1] = true) ∧ Hid (Below w.heap.size w wr)) (fun i _ => n - (intOf i).toNat)
          case atStart => exact ⟨0, rfl, Nat.zero_le _, fun j _ h => absurd h (by omega), Below.refl _ w⟩
          case round =>
            obtain ⟨k, rfl, hk, HAL, HBE⟩ := hrel
            by_cases hlt : (k : Int) + 1 < n
            · have hkl : k + 1 < l.length := by rw [← HE.out]; omega
              obtain ⟨bt, ot, ct', ex, _, hct⟩ := row_elem band_len HX.out k (by omega) (by decide)
              obtain ⟨bt2, ot2, ct2, ex2, _, hct2⟩ := row_elem band_len HX.out (k + 1) hkl (by decide)
              simp only [Value.slice.injEq] at ex
              obtain ⟨rfl, _, rfl⟩ := ex
              simp only [Value.slice.injEq, Option.some.injEq, Addr.mk.injEq, and_true] at ex2
              obtain ⟨⟨rfl, rfl⟩, _, rfl⟩ := ex2
              have HNX : Hid (decide ((l[k]).to_ < (l[k + 1]).to_) = true → ∀ j (hj : j + 1 < l.length), j + 1 < k + 1 + 1 → belowB l[j] l[j + 1] = true) := each_next (p := belowB) hkl HAL.out
              have HNO : Hid (decide ((l[k]).to_ < (l[k + 1]).to_) = false → eachB belowB l = false) := each_no (p := belowB) hkl
              have c0 : wr.cell? ⟨bt, ot + k * 2, none⟩ = some (.int .i64 (l[k]).to_) := up_cell HBE.out (hct 0 _ rfl)
              have c2 : wr.cell? ⟨bt, ot + (k + 1) * 2, none⟩ = some (.int .i64 (l[k + 1]).to_) := up_cell HBE.out (hct2 0 _ rfl)
              obtain ⟨x, hx⟩ : ∃ x, x = (l[k]).to_ := ⟨_, rfl⟩
              obtain ⟨y, hy⟩ : ∃ x, x = (l[k + 1]).to_ := ⟨_, rfl⟩
              rw [← hx] at c0 HNX HNO
              rw [← hy] at c2 HNX HNO
              have HBD : Hid (∀ m, Below w.heap.size w (wr.drewN m)) := fun m => below_drewN HBE.out m
              clear hx hy hct hct2 HBE
              by_cases hxy : x < y
              · have HY := hide' (HNX.out (decide_eq_true hxy))
                go_wp2_with fail
                go_quiet (fail)
                go_wp2
                go_roundw
                case rel => exact ⟨k + 1, by go_num, by omega, HY.out, HBD.out _⟩
                case measure => simp [intOf]; omega
              · have HR : Hid (B = (0, 14)) := by rw [HBI4.out, if_pos (HNO.out (decide_eq_false hxy))]; exact rfl
                go_wp2_with fail
                go_quiet (fail)
                go_wp2
                go_ret2
                exact ⟨by rw [HR.out]; exact rfl, HBD.out _⟩
            · have HEY := hide' (each_yes (p := belowB) l (fun j' hj' => HAL.out j' hj' (by have := HE.out; omega)))
              have HBI5 : Hid (B = (((sumK u l n).1 + 9) / 10, 0)) := by rw [HBI4.out, if_neg (by rw [HEY.out]; decide)]; exact rfl
              have HO : Hid (BillOk u l) := by have := HOK2.out; simp only [forall_const] at this; exact this HAY.out HEY.out
              clear HBI4 HAL HEY HAY HOK2
              go_wp2_with fail
              clear hlt hk
              go_loopw [8, 9, 10] (fun a b i wq => ∃ (k : Nat) (c f : Int), a = .int .i64 c ∧ b = .int .i64 f ∧ i = .int .i64 k ∧ k ≤ n ∧ Hid (sumK u l k = (c, f)) ∧ wq = wr) (fun _ _ i _ => n - (intOf i).toNat)
              case atStart => exact ⟨0, 0, 0, rfl, rfl, rfl, Nat.zero_le _, rfl, rfl⟩
              case round =>
                obtain ⟨k, c, f, rfl, rfl, rfl, hk, HS, hwq⟩ := hrel
                obtain rfl := hwq.symm
                by_cases hlt : k < n
                · have hkl : k < l.length := by rw [← HE.out]; exact hlt
                  obtain ⟨bt, ot, ct', ex, _, hct⟩ := row_elem band_len HX.out k hkl (by decide)
                  simp only [Value.slice.injEq] at ex
                  obtain ⟨rfl, _, rfl⟩ := ex
                  have c0 : wr.cell? ⟨bt, ot + k * 2, none⟩ = some (.int .i64 (bD l k).to_) := by rw [bD_get hkl]; exact up_cell HBE.out (hct 0 _ rfl)
                  have c1 : wr.cell? ⟨bt, ot + k * 2 + 1, none⟩ = some (.int .i64 (bD l k).tenths) := by rw [bD_get hkl]; exact up_cell HBE.out (hct 1 _ rfl)
                  have h1 := toK_le HO.out hkl
                  have h2 := from_le HO.out hkl
                  have h3 := HO.out.band hkl
                  have h4 := sum_ok HO.out k (by omega)
                  have h5 := sum_ok HO.out (k + 1) (by omega)
                  have e2 : (sumK u l (k + 1)) = ((sumK u l k).1 + (toK u l k - (sumK u l k).2) * (bD l k).tenths, toK u l k) := rfl
                  rw [e2] at h5
                  have e3 : toK u l k = if k + 1 = n then u else if (bD l k).to_ < u then (bD l k).to_ else u := by unfold toK; rw [HE.out]
                  have hu1 := HO.out.u1
                  rw [HS.out] at h2 h4 h5 e2
                  obtain ⟨t, ht⟩ : ∃ x, x = toK u l k := ⟨_, rfl⟩
                  rw [← ht] at h1 h2 h5 e2 e3
                  obtain ⟨y0, hy0⟩ : ∃ x, x = (bD l k).to_ := ⟨_, rfl⟩
                  obtain ⟨y1, hy1⟩ : ∃ x, x = (bD l k).tenths := ⟨_, rfl⟩
                  rw [← hy0] at c0 h3 e3
                  rw [← hy1] at c1 h3 h5 e2
                  simp only at h2 h4 h5
                  obtain ⟨m, hm⟩ : ∃ x, x = (t - f) * y1 := ⟨_, rfl⟩
                  rw [← hm] at h5
                  have w1 : IntKind.i64.wrap (t - f) = t - f := wrap_ok (by omega)
                  have w2 : IntKind.i64.wrap ((t - f) * y1) = (t - f) * y1 := wrap_ok (by rw [← hm]; omega)
                  have w3 : IntKind.i64.wrap (c + (t - f) * y1) = c + (t - f) * y1 := wrap_ok (by rw [← hm]; omega)
                  have HS2 : Hid (f < t → sumK u l (k + 1) = (c + (t - f) * y1, t)) := fun _ => e2
                  have HS3 : Hid (¬ f < t → sumK u l (k + 1) = (c, f)) := fun h => by
                    rw [e2, show t = f from by omega]
                    simp
                  clear h1 h3 h4 h5 e2 hm ht hy0 hy1 HS hu1
                  by_cases hl : (k : Int) + 1 = n
                  · have htu : t = u := by rw [e3, if_pos (by omega)]
                    subst htu
                    clear e3
                    by_cases hft : f < t
                    · have HN := hide' (HS2.out hft)
                      clear HS2 HS3
                      go_wp2
                      go_roundw
                      case rel => exact ⟨k + 1, _, _, rfl, rfl, by first | go_num | (congr 1; omega), by omega, HN, trivial⟩
                      case measure => simp [intOf]; omega
                    · have HN := hide' (HS3.out hft)
                      clear HS2 HS3
                      go_wp2
                      go_roundw
                      case rel => exact ⟨k + 1, _, _, rfl, rfl, by first | go_num | (congr 1; omega), by omega, HN, trivial⟩
                      case measure => simp [intOf]; omega
                  · rw [if_neg (by omega)] at e3
                    by_cases hc : u < y0
                    · rw [if_neg (by omega)] at e3
                      subst e3
                      by_cases hft : f < t
                      · have HN := hide' (HS2.out hft)
                        clear HS2 HS3
                        go_wp2
                        go_roundw
                        case rel => exact ⟨k + 1, _, _, rfl, rfl, by first | go_num | (congr 1; omega), by omega, HN, trivial⟩
                        case measure => simp [intOf]; omega
                      · have HN := hide' (HS3.out hft)
                        clear HS2 HS3
                        go_wp2
                        go_roundw
                        case rel => exact ⟨k + 1, _, _, rfl, rfl, by first | go_num | (congr 1; omega), by omega, HN, trivial⟩
                        case measure => simp [intOf]; omega
                    · have e4 : t = y0 := by rw [e3]; split <;> omega
                      clear e3
                      subst e4
                      by_cases hft : f < t
                      · have HN := hide' (HS2.out hft)
                        clear HS2 HS3
                        go_wp2
                        go_roundw
                        case rel => exact ⟨k + 1, _, _, rfl, rfl, by first | go_num | (congr 1; omega), by omega, HN, trivial⟩
                        case measure => simp [intOf]; omega
                      · have HN := hide' (HS3.out hft)
                        clear HS2 HS3
                        go_wp2
                        go_roundw
                        case rel => exact ⟨k + 1, _, _, rfl, rfl, by first | go_num | (congr 1; omega), by omega, HN, trivial⟩
                        case measure => simp [intOf]; omega
                · obtain rfl : k = n := by omega
                  have HC : Hid (B = ((c + 9) / 10, 0)) := by rw [HBI5.out, HS.out]; exact rfl
                  have h4 := sum_ok HO.out k (by rw [← HE.out]; exact hk)
                  rw [HS.out] at h4
                  have hu1 := HO.out.u1
                  simp only at h4
                  have t1 : Int.tdiv c 10 = c / 10 := Int.tdiv_eq_ediv_of_nonneg (by omega)
                  have t2 : Int.tmod c 10 = c % 10 := Int.tmod_eq_emod_of_nonneg (by omega)
                  have w1 : IntKind.i64.wrap (c / 10) = c / 10 := wrap_ok (by omega)
                  have w2 : IntKind.i64.wrap (c % 10) = c % 10 := wrap_ok (by omega)
                  have w3 : IntKind.i64.wrap (c / 10 + 1) = c / 10 + 1 := wrap_ok (by omega)
                  clear h4 hu1
                  by_cases hr : 0 < c % 10
                  · have HC2 : Hid (B = (c / 10 + 1, 0)) := by rw [HC.out, cents_doc, if_pos hr]; exact rfl
                    clear HC
                    go_wp2
                    go_ret2
                    exact ⟨by rw [HC2.out]; exact rfl, HBE.out⟩
                  · have HC2 : Hid (B = (c / 10, 0)) := by rw [HC.out, cents_doc, if_neg hr]; exact rfl
                    clear HC
                    go_wp2
                    go_ret2
                    exact ⟨by rw [HC2.out]; exact rfl, HBE.out⟩
end Go.Proofs.Ytmbgjmkndhjilak.Mtr
