/- safe; numbers picked. -/
import Derived.Test.YtcnoipcpifackahZf
namespace Go.Proofs.Ytcnoipcpifackah
open Go.RowKit Go.Shelf

theorem tmod_within (a : Int) (f : Nat) (ha : 0 ≤ a) (hf : 0 < f) : ∃ p : Nat, a.tmod f = p ∧ p < f := by
  have h1 := Int.tmod_nonneg (f : Int) ha
  have h2 := Int.tmod_lt_of_pos a (show (0 : Int) < f by omega)
  exact ⟨(a.tmod f).toNat, (Int.toNat_of_nonneg h1).symm, by omega⟩
theorem picked_is (n : Int) (f : Nat) (h : I6 n) (hf : 0 < f) (hf1 : f ≤ 3000) :
    ∃ p : Nat, p < f ∧ ∀ w : World, Calls Try.prog 17 #[.int .i64 n, .int .i64 f] w fun e w' => e = .returned (.int .i64 (p : Int)) ∧ w' = w := by
  obtain ⟨h0, h1⟩ := h
  have hf0 : ((f : Int) == 0) = false := by simp; omega
  by_cases hn : n < 0
  · obtain ⟨p, hp, hlt⟩ := tmod_within (-(n + 1)) f (by omega) hf
    rw [Int.neg_tmod] at hp
    refine ⟨p, hlt, fun w => ?_⟩
    go_enter Try.func17, Try.ntmps17
    go_wp2
    go_ret
    exact ⟨by first | rfl | rw [hp], rfl⟩
  · obtain ⟨p, hp, hlt⟩ := tmod_within n f (by omega) hf
    refine ⟨p, hlt, fun w => ?_⟩
    go_enter Try.func17, Try.ntmps17
    go_wp2
    go_ret
    exact ⟨by first | rfl | rw [hp], rfl⟩
set_option maxRecDepth 100000 in
set_option maxHeartbeats 2000000 in
theorem safe_any (y : YardM) (hm : MayY y) (hs : soundB y = true) (af ad as' : Option Addr) (cf cd cs : Nat) (w : World) (hy : YardAt w af ad as' cf cd cs y) :
    Calls Try.prog 16 #[.agg #[.int .i64 y.points, .slice af y.fed.length cf, .slice ad y.drawn.length cd, .slice as' y.devs.length cs]] w fun e w' => e = .returned (.bool true) ∧ Below w.heap.size w w' := by
  have hlen := rising_small hm.f (by have := hm.p; omega)
  have hlen2 := rising_small hm.w (by have := hm.p; omega)
  have hd10 := hm.d
  have HLK : Hid (∀ w', Below w.heap.size w w' → Calls Try.prog 18 #[.agg #[.int .i64 y.points, .slice af y.fed.length cf, .slice ad y.drawn.length cd, .slice as' y.devs.length cs]] w' (LookO y w')) := fun w' hb => Look_any y af ad as' cf cd cs w' (hy.below hb (Nat.le_refl _)) (by omega) (by omega) (by omega)
  have HMB : Hid (mayYB y = true) := mayYB_iff.2 hm
  obtain ⟨_, hn10, hpn⟩ := hm.n_le
  have HSI := hide' (sound_iff.1 hs)
  obtain ⟨lf, hlf⟩ : ∃ l, l = y.fed.length := ⟨_, rfl⟩
  obtain ⟨ld, hld⟩ : ∃ l, l = y.drawn.length := ⟨_, rfl⟩
  obtain ⟨ls, hls⟩ : ∃ l, l = y.devs.length := ⟨_, rfl⟩
  rw [hpn, ← hlf, ← hld, ← hls] at HLK ⊢
  obtain ⟨n, hn⟩ : ∃ n, n = y.n := ⟨_, rfl⟩
  have HN := hide' hn
  rw [← hn] at HLK HSI hn10 ⊢
  clear hlf hld hls hpn hlen hlen2 hd10 hm hs hy hn
  go_enter Try.func16, Try.ntmps16
  go_upto_region 1 with fail
  have HY1 := hide' (alloc_new w (.cells #[.int .i64 (n : Int), .slice af lf cf, .slice ad ld cd, .slice as' ls cs] 25))
  have HB1 := hide' (below_al w (.cells #[.int .i64 (n : Int), .slice af lf cf, .slice ad ld cd, .slice as' ls cs] 25))
  obtain ⟨w1, hw1⟩ : ∃ x, x = w.alloc (.cells #[.int .i64 (n : Int), .slice af lf cf, .slice ad ld cd, .slice as' ls cs] 25) := ⟨_, rfl⟩
  obtain ⟨Y, hYY⟩ : ∃ x, x = w.heap.size := ⟨_, rfl⟩
  rw [← hw1] at HY1 HB1 ⊢
  rw [← hYY] at HY1
  rw [show (Value.pointer (some { block := w.heap.size, off := 0 })) = Value.pointer (some { block := Y, off := 0 }) by rw [hYY]]
  clear hw1 hYY
  have y0 : w1.cell? ⟨Y, 0, none⟩ = some (.int .i64 (n : Int)) := (cells_at HY1.out 0).trans rfl
  have y1 : w1.cell? ⟨Y, 1, none⟩ = some (.slice af lf cf) := (cells_at HY1.out 1).trans rfl
  have y2 : w1.cell? ⟨Y, 2, none⟩ = some (.slice ad ld cd) := (cells_at HY1.out 2).trans rfl
  have y3 : w1.cell? ⟨Y, 3, none⟩ = some (.slice as' ls cs) := (cells_at HY1.out 3).trans rfl
  have HL1 := hide' (HLK.out w1 HB1.out)
  go_wp2_with fail
  refine HL1.out.mono ?_
  intro e w2 hlo
  obtain ⟨hlo, hb2⟩ := hlo
  have HB2 : Hid (Below w.heap.size w w2) := HB1.out.trans (hb2.mono HB1.out.size)
  have HY2 := hide' ((hb2.block Y (Array.getElem?_eq_some_iff.1 HY1.out).1).trans HY1.out)
  clear hb2 HL1 HLK y0 y1 y2 y3 HY1 HB1
  rcases hlo with ⟨hno, _⟩ | ⟨_, L, E, rfl, hol, hoe⟩
  · rw [HMB.out] at hno; cases hno
  rw [← HN.out] at hol hoe ⊢
  have HOL := hide' (rowAt_of_own hol)
  have HOE := hide' (rowAt_of_own hoe)
  have y0 : w2.cell? ⟨Y, 0, none⟩ = some (.int .i64 (n : Int)) := (cells_at HY2.out 0).trans rfl
  clear hol hoe
  go_wp2_with fail
  go_loopw [6] (fun i wr => ∃ (k : Nat), i = .int .i64 k ∧ k ≤ n ∧ wr = w2) (fun i _ => n - (intOf i).toNat)
  case atStart => exact ⟨0, rfl, Nat.zero_le _, rfl⟩
  case round =>
    obtain ⟨k, rfl, hk, hwr⟩ := hrel
    obtain rfl := hwr.symm
    by_cases hkn : k < n
    · have c1 := row_bit HOL.out hkn
      have c2 := row_bit HOE.out hkn
      have hnot := HSI.out k hkn
      obtain ⟨a, ha⟩ : ∃ a, a = y.live.getD k false := ⟨_, rfl⟩
      obtain ⟨b, hb⟩ : ∃ b, b = y.earthed.getD k false := ⟨_, rfl⟩
      rw [← ha] at c1 hnot
      rw [← hb] at c2 hnot
      clear ha hb
      cases a with
      | false =>
        go_wp2
        go_roundw
        case rel => exact ⟨k + 1, by go_num, by omega, trivial⟩
        case measure => simp [intOf]; omega
      | true =>
        cases b with
        | true => exact absurd ⟨rfl, rfl⟩ hnot
        | false =>
          go_wp2
          go_roundw
          case rel => exact ⟨k + 1, by go_num, by omega, trivial⟩
          case measure => simp [intOf]; omega
    · go_wp2
      go_ret
      exact ⟨rfl, HB2.out⟩
end Go.Proofs.Ytcnoipcpifackah
