/- Whether a yard may be, in the program: all of it. -/
import Derived.Test.YtcnoipcpifackahY2
namespace Go.Proofs.Ytcnoipcpifackah
open Go.RowKit Go.Shelf

set_option maxRecDepth 100000 in
set_option maxHeartbeats 2000000 in
theorem mayBe_any (y : YardM) (af ad as' : Option Addr) (cf cd cs : Nat) (w : World) (hy : YardAt w af ad as' cf cd cs y) (hf : y.fed.length ≤ 9000000000000000000) (hd : y.drawn.length ≤ 9000000000000000000) (hs : y.devs.length ≤ 9000000000000000000) :
    Calls Try.prog 28 #[.agg #[.int .i64 y.points, .slice af y.fed.length cf, .slice ad y.drawn.length cd, .slice as' y.devs.length cs]] w fun e w' => e = .returned (.bool (mayYB y)) ∧ Below w.heap.size w w' := by
  have HM : Hid (mayYB y = ((decide (1 ≤ y.points) && decide (y.points ≤ 10) && decide (y.devs.length ≤ 10)) && (risingB y.points y.fed && (risingB y.points y.drawn && y.devs.all (devB y.points))))) := rfl
  have HG := hide' hy
  obtain ⟨n, hn⟩ : ∃ n, n = y.points := ⟨_, rfl⟩
  obtain ⟨lf, hlf⟩ : ∃ l, l = y.fed.length := ⟨_, rfl⟩
  obtain ⟨ld, hld⟩ : ∃ l, l = y.drawn.length := ⟨_, rfl⟩
  obtain ⟨ls, hls⟩ : ∃ l, l = y.devs.length := ⟨_, rfl⟩
  have HLF := hide' hlf
  have HLD := hide' hld
  have HLS := hide' hls
  have HNN := hide' hn
  rw [← hlf] at hf
  rw [← hld] at hd
  rw [← hls, ← hn] at HM
  rw [← hls] at hs
  rw [← hlf, ← hld, ← hls, ← hn]
  clear hy hn hlf hld hls
  have HB : Hid (∀ o, Below w.heap.size w (w.alloc o)) := fun o => (Below.refl _ w).alloc (Nat.le_refl _) o
  have HB2 : Hid (∀ o o2, Below w.heap.size w ((w.alloc o).alloc o2)) := fun o o2 => (HB.out o).alloc (HB.out o).size o2
  go_enter Try.func28, Try.ntmps28
  by_cases h1 : n < 1
  · go_wp2
    go_ret
    exact ⟨by rw [HM.out]; simp; omega, HB.out _⟩
  by_cases h2 : 10 < n
  · go_wp2
    go_ret
    exact ⟨by rw [HM.out]; simp; omega, HB.out _⟩
  by_cases h3 : 10 < ls
  · go_wp2
    go_ret
    exact ⟨by rw [HM.out]; simp; omega, HB.out _⟩
  go_upto_region 6 with fail
  have hbY : ((w.alloc (.cells #[.int .i64 n, .slice af lf cf, .slice ad ld cd, .slice as' ls cs] 25)).alloc (.cells #[.func (.func 42) #[] #[.pointer (some ⟨w.heap.size, 0, none⟩)]] 78)).heap[w.heap.size]? = some (.cells #[.int .i64 n, .slice af lf cf, .slice ad ld cd, .slice as' ls cs] 25 (0, 0)) := (alloc_old _ _ (by simp)).trans (alloc_new _ _)
  have hbF : ((w.alloc (.cells #[.int .i64 n, .slice af lf cf, .slice ad ld cd, .slice as' ls cs] 25)).alloc (.cells #[.func (.func 42) #[] #[.pointer (some ⟨w.heap.size, 0, none⟩)]] 78)).heap[w.heap.size + 1]? = some (.cells #[.func (.func 42) #[] #[.pointer (some ⟨w.heap.size, 0, none⟩)]] 78 (0, 0)) := by
    have h2 := alloc_new (w.alloc (.cells #[.int .i64 n, .slice af lf cf, .slice ad ld cd, .slice as' ls cs] 25)) (.cells #[.func (.func 42) #[] #[.pointer (some ⟨w.heap.size, 0, none⟩)]] 78)
    rw [World.size_alloc] at h2
    exact h2
  have HBW := hide' (HB2.out (.cells #[.int .i64 n, .slice af lf cf, .slice ad ld cd, .slice as' ls cs] 25) (.cells #[.func (.func 42) #[] #[.pointer (some ⟨w.heap.size, 0, none⟩)]] 78))
  obtain ⟨F, hF⟩ : ∃ F, F = w.heap.size + 1 := ⟨_, rfl⟩
  obtain ⟨W2, hW2⟩ : ∃ W2, W2 = (w.alloc (.cells #[.int .i64 n, .slice af lf cf, .slice ad ld cd, .slice as' ls cs] 25)).alloc (.cells #[.func (.func 42) #[] #[.pointer (some ⟨w.heap.size, 0, none⟩)]] 78) := ⟨_, rfl⟩
  rw [← hW2, ← hF] at hbF
  rw [← hW2] at hbY HBW
  rw [← hW2, ← hF]
  obtain ⟨Y, hY⟩ : ∃ Y, Y = w.heap.size := ⟨_, rfl⟩
  rw [← hY] at hbF hbY
  rw [show (Value.pointer (some { block := w.heap.size, off := 0 })) = Value.pointer (some { block := Y, off := 0 }) by rw [hY]]
  clear hW2 hF hY HB HB2
  have y0 : W2.cell? ⟨Y, 0, none⟩ = some (.int .i64 n) := by simp [World.cell?, hbY]
  have y1 : W2.cell? ⟨Y, 1, none⟩ = some (.slice af lf cf) := by simp [World.cell?, hbY]
  have y2 : W2.cell? ⟨Y, 2, none⟩ = some (.slice ad ld cd) := by simp [World.cell?, hbY]
  have y3 : W2.cell? ⟨Y, 3, none⟩ = some (.slice as' ls cs) := by simp [World.cell?, hbY]
  have f0 : W2.cell? ⟨F, 0, none⟩ = some (.func (.func 42) #[] #[.pointer (some ⟨Y, 0, none⟩)]) := by simp [World.cell?, hbF]
  have HG2 := hide' (HG.out.below HBW.out (Nat.le_refl _))
  have HC1 : Hid (Calls Try.prog 43 #[.slice af lf cf, .pointer (some ⟨F, 0, none⟩)] W2 fun e w' => e = .returned (.bool (risingB n y.fed)) ∧ w' = W2) := by
    have h5 := HG2.out.f
    rw [← HLF.out] at h5
    exact rising_any n y.fed _ Y F W2 (by rw [← HLF.out]; exact h5) y0 f0 (by rw [← HLF.out]; exact hf)
  have HC2 : Hid (Calls Try.prog 43 #[.slice ad ld cd, .pointer (some ⟨F, 0, none⟩)] W2 fun e w' => e = .returned (.bool (risingB n y.drawn)) ∧ w' = W2) := by
    have h5 := HG2.out.d
    rw [← HLD.out] at h5
    exact rising_any n y.drawn _ Y F W2 (by rw [← HLD.out]; exact h5) y0 f0 (by rw [← HLD.out]; exact hd)
  have HC3 : Hid (Calls Try.prog 45 #[.slice as' ls cs, .func (.func 44) #[] #[.pointer (some ⟨F, 0, none⟩)]] W2 fun e w' => e = .returned (.bool (!y.devs.all (devB n))) ∧ Below W2.heap.size W2 w') := by
    have h5 := HG2.out.s
    rw [← HLS.out] at h5
    exact containsDev_any n y.devs _ Y F W2 (by rw [← HLS.out]; exact h5) y0 f0 (by rw [← HLS.out]; omega)
  have hM1 : (decide (1 ≤ n) && decide (n ≤ 10) && decide (ls ≤ 10)) = true := by simp; omega
  rw [hM1, Bool.true_and] at HM
  obtain ⟨b1, hb1⟩ : ∃ b, b = risingB n y.fed := ⟨_, rfl⟩
  obtain ⟨b2, hb2⟩ : ∃ b, b = risingB n y.drawn := ⟨_, rfl⟩
  obtain ⟨b3, hb3⟩ : ∃ b, b = y.devs.all (devB n) := ⟨_, rfl⟩
  rw [← hb1] at HM HC1
  rw [← hb2] at HM HC2
  rw [← hb3] at HM HC3
  clear hb1 hb2 hb3 hM1 hbY hbF HG HG2 y0 f0
  go_wp2_with fail
  refine HC1.out.mono ?_
  rintro e w1 ⟨rfl, hw⟩
  obtain rfl := hw.symm
  clear hw HC1
  cases b1 with
  | false =>
    go_wp2
    go_ret
    exact ⟨by rw [HM.out]; rfl, HBW.out⟩
  | true =>
    go_wp2_with fail
    refine HC2.out.mono ?_
    rintro e w1 ⟨rfl, hw⟩
    obtain rfl := hw.symm
    clear hw HC2
    cases b2 with
    | false =>
      go_wp2
      go_ret
      exact ⟨by rw [HM.out]; rfl, HBW.out⟩
    | true =>
      go_wp2_with fail
      refine HC3.out.mono ?_
      rintro e w1 ⟨rfl, hw⟩
      have HB1 := hide' (HBW.out.trans (hw.mono HBW.out.size))
      clear hw HC3
      cases b3 with
      | false =>
        go_wp2
        go_ret
        exact ⟨by rw [HM.out]; rfl, HB1.out⟩
      | true =>
        go_wp2
        go_ret
        exact ⟨by rw [HM.out]; rfl, HB1.out⟩
end Go.Proofs.Ytcnoipcpifackah
