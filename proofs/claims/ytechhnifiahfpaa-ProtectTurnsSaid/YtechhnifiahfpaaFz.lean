/- What differs, in the program. -/
import Derived.Test.YtechhnifiahfpaaFy
namespace Go.Proofs.Ytechhnifiahfpaa
open Go.RowKit Go.Shelf

theorem nat53 {a : Int} (h0 : 0 ≤ a) (h : a < 9007199254740992) : a.natAbs < 2 ^ 53 := by omega
set_option maxRecDepth 100000 in
set_option maxHeartbeats 4000000 in
theorem differs_any (cs : List (Nat × Nat)) (zs : List (Int × Int)) (v : Value) (sb pb : Nat) (s p : Int) (w : World) (hx : RowAt w v cs.length 1 (cs.map cpx)) (hn : cs.length ≤ 16) (hc : AllC cs zs) (hs : Wh sb s) (hp : Wh pb p) (hs0 : 0 ≤ s) (hs1 : s ≤ 32768) (hp0 : 0 ≤ p) (hp1 : p ≤ 100) : Calls Try.prog 8 #[v, .float .f64 sb, .float .f64 pb] w fun e w' => e = .returned (.bool (diffB zs s p)) ∧ w' = w := by
  have HG := hide' hx
  have HC := hide' hc
  have HSW := hide' hs
  have HPW := hide' hp
  obtain ⟨ag, cg, rfl⟩ := rowAt_slice hx
  clear hx hc hs hp
  go_enter Try.func8, Try.ntmps8
  go_wp2_with fail
  go_loopw [7, 8, 14] (fun av gv i wr => ∃ (k a b g : Nat), i = .int .i64 k ∧ k ≤ cs.length ∧ av = .complex .f64 a b ∧ gv = .float .f64 g ∧ Hid (Wh a (sx zs k)) ∧ Hid (Wh b (sy zs k)) ∧ Hid (Wh g (gq zs k)) ∧ wr = w) (fun _ _ i _ => cs.length - (intOf i).toNat)
  case atStart => exact ⟨0, 0, 0, 0, rfl, Nat.zero_le _, rfl, rfl, hide' wh_nought, hide' wh_nought, hide' wh_nought, rfl⟩
  case round =>
    obtain ⟨k, a, b, g, rfl, hk, rfl, rfl, HA, HB, HGQ, hwr⟩ := hrel
    subst hwr
    by_cases hlt : k < cs.length
    · obtain ⟨bt, ot, ct', ex, hct⟩ := cpx_cell HG.out k hlt
      cases ex
      have hb := HC.out.bd k
      have hsb := sx_bd HC.out.bd k
      obtain ⟨p1, q1, wp1, wq1, hadd⟩ := run_cadd HA.out HB.out (HC.out.re k hlt) (HC.out.im k hlt) (by omega) (by omega)
      obtain ⟨r, wr', hsq⟩ := square_any (HC.out.re k hlt) (HC.out.im k hlt) (by omega) (by omega)
      obtain ⟨r2, wr2, hmx⟩ := run_cmax HGQ.out wr'
      have HN1 : Hid (Wh p1 (sx zs (k + 1))) := wp1
      have HN2 : Hid (Wh q1 (sy zs (k + 1))) := wq1
      have HN3 : Hid (Wh r2 (gq zs (k + 1))) := wr2
      have HSQ := hide' hsq
      clear wp1 wq1 wr2 wr' hb hsb hsq
      obtain ⟨x, hx⟩ : ∃ x, x = (cs.getD k (0, 0)).1 := ⟨_, rfl⟩
      obtain ⟨y, hy⟩ : ∃ y, y = (cs.getD k (0, 0)).2 := ⟨_, rfl⟩
      rw [← hx, ← hy] at hct hadd HSQ
      clear hx hy
      go_wp2_with fail
      refine (HSQ.out _).mono ?_
      rintro e w' ⟨rfl, rfl⟩
      go_wp2
      go_roundw
      case rel => exact ⟨k + 1, p1, q1, r2, by go_num, by omega, rfl, rfl, HN1, HN2, HN3, trivial⟩
      case measure => simp [intOf]; omega
    · have hkn : k = zs.length := by have := HC.out.len; omega
      have hk16 : zs.length ≤ 16 := by have := HC.out.len; omega
      rw [hkn] at HA HB HGQ
      have hsb := sx_bd HC.out.bd zs.length
      have hgb := gq_bd HC.out.bd zs.length
      have hsr : 0 ≤ sqr (sx zs zs.length, sy zs zs.length) ∧ sqr (sx zs zs.length, sy zs zs.length) ≤ 2 * (524288 * 524288 : Nat) := sq_bd (z := (sx zs zs.length, sy zs zs.length)) (by show (sx zs zs.length).natAbs ≤ _; omega) (by show (sy zs zs.length).natAbs ≤ _; omega)
      obtain ⟨r, wr', hsq⟩ := square_any HA.out HB.out (by omega) (by omega)
      have wr0 : Wh r (sqr (sx zs zs.length, sy zs zs.length)) := wr'
      have hss : 0 ≤ s * s ∧ s * s ≤ 32768 * 32768 := ⟨Int.mul_nonneg hs0 hs0, Int.mul_le_mul hs1 hs1 hs0 (by decide)⟩
      have hpp : 0 ≤ p * p ∧ p * p ≤ 100 * 100 := ⟨Int.mul_nonneg hp0 hp0, Int.mul_le_mul hp1 hp1 hp0 (by decide)⟩
      have hpg : 0 ≤ p * p * gq zs zs.length ∧ p * p * gq zs zs.length ≤ 10000 * 2147483648 := ⟨Int.mul_nonneg hpp.1 hgb.1, Int.mul_le_mul hpp.2 hgb.2 hgb.1 (by decide)⟩
      obtain ⟨m1, hm1, wm1⟩ := wh_mul HSW.out HSW.out (nat53 hss.1 (by omega))
      obtain ⟨m2, hm2, wm2⟩ := wh_mul wh_myriad wr0 (by omega)
      obtain ⟨m3, hm3, wm3⟩ := wh_mul HPW.out HPW.out (nat53 hpp.1 (by omega))
      obtain ⟨m4, hm4, wm4⟩ := wh_mul wm3 HGQ.out (nat53 hpg.1 (by omega))
      have o1 := gt_order wr0 wm1
      have o2 := gt_order wm2 wm4
      have e1 := run_of hm1
      have e2 := run_of hm2
      have e3 := run_of hm3
      have e4 := run_of hm4
      have HD : Hid (diffB zs s p = (decide (s * s < sqr (sx zs zs.length, sy zs zs.length)) && decide (p * p * gq zs zs.length < 10000 * sqr (sx zs zs.length, sy zs zs.length)))) := rfl
      have HSQ := hide' hsq
      clear hsq wr' wr0 wm1 wm2 wm3 wm4 hm1 hm2 hm3 hm4 hsr hss hpp hpg hsb hgb
      by_cases c1 : s * s < sqr (sx zs zs.length, sy zs zs.length)
      · by_cases c2 : p * p * gq zs zs.length < 10000 * sqr (sx zs zs.length, sy zs zs.length)
        · rw [decide_eq_true c1] at o1 HD
          rw [decide_eq_true c2] at o2 HD
          clear c1 c2
          go_wp2_with fail
          refine (HSQ.out _).mono ?_
          rintro e w' ⟨rfl, rfl⟩
          go_wp2
          go_ret
          exact ⟨by rw [HD.out]; first | rfl | simp [o1, o2], rfl⟩
        · rw [decide_eq_true c1] at o1 HD
          rw [decide_eq_false c2] at o2 HD
          clear c1 c2
          go_wp2_with fail
          refine (HSQ.out _).mono ?_
          rintro e w' ⟨rfl, rfl⟩
          go_wp2
          go_ret
          exact ⟨by rw [HD.out]; first | rfl | simp [o1, o2], rfl⟩
      · rw [decide_eq_false c1] at o1 HD
        clear c1
        go_wp2_with fail
        refine (HSQ.out _).mono ?_
        rintro e w' ⟨rfl, rfl⟩
        go_wp2
        go_ret
        exact ⟨by rw [HD.out]; first | rfl | simp [o1], rfl⟩
set_option maxRecDepth 100000 in
set_option maxHeartbeats 4000000 in
theorem Differs_any (cs : List (Nat × Nat)) (zs : List (Int × Int)) (v : Value) (s p : Int) (w : World) (hx : RowAt w v cs.length 1 (cs.map cpx)) (hn : cs.length ≤ 16) (hc : AllC cs zs) (hs0 : 0 ≤ s) (hs1 : s ≤ 32768) (hp0 : 0 ≤ p) (hp1 : p ≤ 100) : Calls Try.prog 5 #[v, .int .i64 s, .int .i64 p] w fun e w' => e = .returned (.tuple #[.bool (diffB zs s p), .int .i64 0]) ∧ w' = w := by
  have HW := hide' (areWhole_any cs zs v w hx hn hc)
  have H1 := hide' (isUpTo_any 32768 s hs0 hs1)
  have H2 := hide' (isUpTo_any 100 p hp0 hp1)
  have HD := hide' (differs_any cs zs v (floatOfInt .f64 s) (floatOfInt .f64 p) s p w hx hn hc (wh_of s (by omega)) (wh_of p (by omega)) hs0 hs1 hp0 hp1)
  obtain ⟨ag, cg, rfl⟩ := rowAt_slice hx
  clear hx hc
  go_enter Try.func5, Try.ntmps5
  go_wp2_with fail
  refine HW.out.mono ?_
  rintro e w' ⟨rfl, rfl⟩
  go_wp2_with fail
  refine (H1.out _).mono ?_
  rintro e w' ⟨rfl, rfl⟩
  go_wp2_with fail
  refine (H2.out _).mono ?_
  rintro e w' ⟨rfl, rfl⟩
  go_wp2_with fail
  refine HD.out.mono ?_
  rintro e w' ⟨rfl, rfl⟩
  go_wp2
  go_ret2
  exact ⟨rfl, rfl⟩
end Go.Proofs.Ytechhnifiahfpaa
