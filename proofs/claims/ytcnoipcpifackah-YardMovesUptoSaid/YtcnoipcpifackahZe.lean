/- YardMoves. -/
import Derived.Test.YtcnoipcpifackahZd
import Derived.Test.YtcnoipcpifackahZb
namespace Go.Proofs.Ytcnoipcpifackah
open Go.RowKit Go.Shelf

theorem zero_yard (w : World) : YardAt w none none none 0 0 0 ⟨0, [], [], []⟩ := ⟨⟨rfl, none, 0, rfl, fun j u h => by simp [ints] at h⟩, ⟨rfl, none, 0, rfl, fun j u h => by simp [ints] at h⟩, ⟨rfl, none, 0, rfl, fun j u h => by simp at h⟩⟩
set_option maxRecDepth 100000 in
set_option maxHeartbeats 2000000 in
theorem YardMoves_any (y : YardM) (k : Int) (af ad as' : Option Addr) (cf cd cs : Nat) (w : World) (hy : YardAt w af ad as' cf cd cs y) (hf : y.fed.length ≤ 2000000) (hd : y.drawn.length ≤ 2000000) (hs : y.devs.length ≤ 2000000) :
    Calls Try.prog 3 #[.agg #[.int .i64 y.points, .slice af y.fed.length cf, .slice ad y.drawn.length cd, .slice as' y.devs.length cs], .int .i64 k] w fun e w' => e = .returned (.bool true) ∧ Below w.heap.size w w' := by
  have HOF : Hid (∀ w', Below w.heap.size w w' → Calls Try.prog 8 #[.agg #[.int .i64 y.points, .slice af y.fed.length cf, .slice ad y.drawn.length cd, .slice as' y.devs.length cs]] w' fun e w2 => ∃ af2 ad2 as2 cf2 cd2 cs2, e = .returned (.agg #[.int .i64 y.points, .slice af2 y.fed.length cf2, .slice ad2 y.drawn.length cd2, .slice as2 y.devs.length cs2]) ∧ YardAt w2 af2 ad2 as2 cf2 cd2 cs2 y ∧ Below w'.heap.size w' w2) := fun w' hb => YardOf_any y af ad as' cf cd cs w' (hy.below hb (Nat.le_refl _)) (by omega) (by omega) (by omega)
  have HMC : Hid (∀ w' af ad as' cf cd cs, YardAt w' af ad as' cf cd cs y → Calls Try.prog 7 #[.agg #[.int .i64 y.points, .slice af y.fed.length cf, .slice ad y.drawn.length cd, .slice as' y.devs.length cs], .int .i64 k] w' (MovedO y k w')) := fun w' af ad as' cf cd cs h => Move_any y k af ad as' cf cd cs w' h (by omega) (by omega) (by omega)
  have HVC : Hid (∀ w', Below w.heap.size w w' → Calls Try.prog 9 #[.agg #[.int .i64 y.points, .slice af y.fed.length cf, .slice ad y.drawn.length cd, .slice as' y.devs.length cs], .int .i64 k] w' (MovedO y k w')) := fun w' hb => YardMoved_any y k af ad as' cf cd cs w' (hy.below hb (Nat.le_refl _)) (by omega) (by omega) (by omega)
  have HSY : Hid (∀ j, MayY y → ∀ w' uf ud us vf vd vs ucf ucd ucs vcf vcd vcs, YardAt w' uf ud us ucf ucd ucs (y.turn j) → YardAt w' vf vd vs vcf vcd vcs (y.turn j) → Calls Try.prog 10 #[.agg #[.int .i64 y.points, .slice uf y.fed.length ucf, .slice ud y.drawn.length ucd, .slice us y.devs.length ucs], .agg #[.int .i64 y.points, .slice vf y.fed.length vcf, .slice vd y.drawn.length vcd, .slice vs y.devs.length vcs]] w' fun e w2 => e = .returned (.bool true) ∧ Below w'.heap.size w' w2) := fun j hm w' uf ud us vf vd vs ucf ucd ucs vcf vcd vcs h1 h2 => by
    have h3 := sameYard_same (y.turn j) uf ud us vf vd vs ucf ucd ucs vcf vcd vcs w' h1 h2 (rising_small hm.f (by have := hm.p; omega)) (rising_small hm.w (by have := hm.p; omega)) (by rw [turn_len]; have := hm.d; omega)
    rw [turn_len] at h3
    exact h3
  have HSZ : Hid (∀ w', Calls Try.prog 10 #[.agg #[.int .i64 0, .slice none 0 0, .slice none 0 0, .slice none 0 0], .agg #[.int .i64 0, .slice none 0 0, .slice none 0 0, .slice none 0 0]] w' fun e w2 => e = .returned (.bool true) ∧ Below w'.heap.size w' w2) := fun w' => sameYard_same ⟨0, [], [], []⟩ none none none none none none 0 0 0 0 0 0 w' (zero_yard w') (zero_yard w') (by decide) (by decide) (by decide)
  have HI := hide' (mayYB_iff (y := y))
  obtain ⟨lf, hlf⟩ : ∃ l, l = y.fed.length := ⟨_, rfl⟩
  obtain ⟨ld, hld⟩ : ∃ l, l = y.drawn.length := ⟨_, rfl⟩
  obtain ⟨ls, hls⟩ : ∃ l, l = y.devs.length := ⟨_, rfl⟩
  obtain ⟨pt, hpt⟩ : ∃ l, l = y.points := ⟨_, rfl⟩
  obtain ⟨ok, hok⟩ : ∃ l, l = (mayYB y && soundB y) := ⟨_, rfl⟩
  have HMY : Hid (ok = true → MayY y) := fun h => HI.out.1 (by rw [h] at hok; have := hok.symm; rw [Bool.and_eq_true] at this; exact this.1)
  have HMO : Hid (∀ (k : Int) (wa : World) (e : Ending) (wb : World), MovedO y k wa e wb → (((ok) = false ∧ e = .returned (.tuple #[.agg zero4, .int .i64 14])) ∨ ((ok) = true ∧ (k < 0 ∨ (ls : Int) ≤ k) ∧ e = .returned (.tuple #[.agg zero4, .int .i64 4])) ∨ ((ok) = true ∧ ∃ j : Nat, k = (j : Int) ∧ j < ls ∧ ((moveErr y j ≠ 0 ∧ e = .returned (.tuple #[.agg zero4, .int .i64 (moveErr y j)])) ∨ (moveErr y j = 0 ∧ ∃ af ad as' cf cd cs, e = .returned (.tuple #[.agg #[.int .i64 pt, .slice af lf cf, .slice ad ld cd, .slice as' ls cs], .int .i64 0]) ∧ YardAt wb af ad as' cf cd cs (y.turn j))))) ∧ Below wa.heap.size wa wb) := fun k wa e wb h => by rw [hlf, hld, hls, hpt, hok]; exact h
  rw [← hlf, ← hld, ← hls, ← hpt] at HOF HVC HMC HSY ⊢
  clear hlf hld hls hpt hok HI hy hf hd hs
  go_enter Try.func3, Try.ntmps3
  go_upto_region 1 with fail
  have HY1 := hide' (alloc_new w (.cells #[.int .i64 pt, .slice af lf cf, .slice ad ld cd, .slice as' ls cs] 25))
  have HB1 := hide' (below_al w (.cells #[.int .i64 pt, .slice af lf cf, .slice ad ld cd, .slice as' ls cs] 25))
  obtain ⟨w1, hw1⟩ : ∃ x, x = w.alloc (.cells #[.int .i64 pt, .slice af lf cf, .slice ad ld cd, .slice as' ls cs] 25) := ⟨_, rfl⟩
  obtain ⟨Y, hYY⟩ : ∃ x, x = w.heap.size := ⟨_, rfl⟩
  rw [← hw1] at HY1 HB1 ⊢
  rw [← hYY] at HY1
  rw [show (Value.pointer (some { block := w.heap.size, off := 0 })) = Value.pointer (some { block := Y, off := 0 }) by rw [hYY]]
  clear hw1 hYY
  have y0 : w1.cell? ⟨Y, 0, none⟩ = some (.int .i64 pt) := (cells_at HY1.out 0).trans rfl
  have y1 : w1.cell? ⟨Y, 1, none⟩ = some (.slice af lf cf) := (cells_at HY1.out 1).trans rfl
  have y2 : w1.cell? ⟨Y, 2, none⟩ = some (.slice ad ld cd) := (cells_at HY1.out 2).trans rfl
  have y3 : w1.cell? ⟨Y, 3, none⟩ = some (.slice as' ls cs) := (cells_at HY1.out 3).trans rfl
  have HO1 := hide' (HOF.out w1 HB1.out)
  go_wp2_with fail
  refine HO1.out.mono ?_
  rintro e w2 ⟨af2, ad2, as2, cf2, cd2, cs2, rfl, hya, hb2⟩
  have HB2 : Hid (Below w.heap.size w w2) := HB1.out.trans (hb2.mono HB1.out.size)
  have HY2 := hide' ((hb2.block Y (Array.getElem?_eq_some_iff.1 HY1.out).1).trans HY1.out)
  have HM2 := hide' (HMC.out w2 af2 ad2 as2 cf2 cd2 cs2 hya)
  clear hya hb2 HO1 HOF HMC HY1 HB1 y0 y1 y2 y3
  go_wp2_with fail
  refine HM2.out.mono ?_
  intro e w3 hmo
  obtain ⟨hmo, hb3⟩ := HMO.out _ _ _ _ hmo
  have HB3 : Hid (Below w.heap.size w w3) := HB2.out.trans (hb3.mono HB2.out.size)
  have HY3 := hide' ((hb3.block Y (Array.getElem?_eq_some_iff.1 HY2.out).1).trans HY2.out)
  clear hb3 HM2 HY2
  rcases hmo with ⟨hno, rfl⟩ | ⟨hyes, hr, rfl⟩ | ⟨hyes, j, rfl, hj, ⟨hne, rfl⟩ | ⟨h0, ua, ub, us, uc, ud, ue, rfl, hya⟩⟩
  · rw [show zero4 = (#[.int .i64 0, .slice none 0 0, .slice none 0 0, .slice none 0 0] : Array Value) from rfl]
    have HNO := hide' hno
    clear hno
    go_upto_region 2 with fail
    have HA4 := hide' (alloc_new w3 (.cells #[.int .i64 0, .slice none 0 0, .slice none 0 0, .slice none 0 0] 25))
    have HB4 := hide' (HB3.out.alloc HB3.out.size (.cells #[.int .i64 0, .slice none 0 0, .slice none 0 0, .slice none 0 0] 25))
    have HY4 := hide' ((alloc_old w3 (.cells #[.int .i64 0, .slice none 0 0, .slice none 0 0, .slice none 0 0] 25) (Array.getElem?_eq_some_iff.1 HY3.out).1).trans HY3.out)
    have HBB4 := hide' (below_al w3 (.cells #[.int .i64 0, .slice none 0 0, .slice none 0 0, .slice none 0 0] 25))
    obtain ⟨w4, hw4⟩ : ∃ x, x = w3.alloc (.cells #[.int .i64 0, .slice none 0 0, .slice none 0 0, .slice none 0 0] 25) := ⟨_, rfl⟩
    obtain ⟨U, hUU⟩ : ∃ x, x = w3.heap.size := ⟨_, rfl⟩
    rw [← hw4] at HA4 HB4 HY4 HBB4 ⊢
    rw [← hUU] at HA4
    rw [show (Value.pointer (some { block := w3.heap.size, off := 0 })) = Value.pointer (some { block := U, off := 0 }) by rw [hUU]]
    clear hw4 hUU
    have y0 : w4.cell? ⟨Y, 0, none⟩ = some (.int .i64 pt) := (cells_at HY4.out 0).trans rfl
    have y1 : w4.cell? ⟨Y, 1, none⟩ = some (.slice af lf cf) := (cells_at HY4.out 1).trans rfl
    have y2 : w4.cell? ⟨Y, 2, none⟩ = some (.slice ad ld cd) := (cells_at HY4.out 2).trans rfl
    have y3 : w4.cell? ⟨Y, 3, none⟩ = some (.slice as' ls cs) := (cells_at HY4.out 3).trans rfl
    have HV4 := hide' (HVC.out w4 HB4.out)
    go_wp2_with fail
    refine HV4.out.mono ?_
    intro e w5 hmo
    obtain ⟨hmo, hb5⟩ := HMO.out _ _ _ _ hmo
    have HB5 : Hid (Below w.heap.size w w5) := HB4.out.trans (hb5.mono HB4.out.size)
    have HA5 := hide' ((hb5.block U (Array.getElem?_eq_some_iff.1 HA4.out).1).trans HA4.out)
    have HBB5 := hide' hb5
    clear hb5 HV4 y0 y1 y2 y3 HVC

    obtain rfl : e = .returned (.tuple #[.agg #[.int .i64 0, .slice none 0 0, .slice none 0 0, .slice none 0 0], .int .i64 14]) := by
      rcases hmo with ⟨_, h⟩ | ⟨h, _⟩ | ⟨h, _⟩
      · exact h
      · rw [HNO.out] at h; cases h
      · rw [HNO.out] at h; cases h
    clear hmo
    go_upto_region 3 with fail
    have HC6 := hide' (alloc_new w5 (.cells #[.int .i64 0, .slice none 0 0, .slice none 0 0, .slice none 0 0] 25))
    have HB6 := hide' (HB5.out.alloc HB5.out.size (.cells #[.int .i64 0, .slice none 0 0, .slice none 0 0, .slice none 0 0] 25))
    have HA6 := hide' ((alloc_old w5 (.cells #[.int .i64 0, .slice none 0 0, .slice none 0 0, .slice none 0 0] 25) (Array.getElem?_eq_some_iff.1 HA5.out).1).trans HA5.out)
    have HS6 := hide' (HSZ.out (w5.alloc (.cells #[.int .i64 0, .slice none 0 0, .slice none 0 0, .slice none 0 0] 25)))
    obtain ⟨w6, hw6⟩ : ∃ x, x = w5.alloc (.cells #[.int .i64 0, .slice none 0 0, .slice none 0 0, .slice none 0 0] 25) := ⟨_, rfl⟩
    obtain ⟨T, hTT⟩ : ∃ x, x = w5.heap.size := ⟨_, rfl⟩
    rw [← hw6] at HC6 HB6 HA6 HS6 ⊢
    rw [← hTT] at HC6
    rw [show (Value.pointer (some { block := w5.heap.size, off := 0 })) = Value.pointer (some { block := T, off := 0 }) by rw [hTT]]
    clear hw6 hTT
    have u0 : w6.cell? ⟨U, 0, none⟩ = some (.int .i64 0) := (cells_at HA6.out 0).trans rfl
    have u1 : w6.cell? ⟨U, 1, none⟩ = some (.slice none 0 0) := (cells_at HA6.out 1).trans rfl
    have u2 : w6.cell? ⟨U, 2, none⟩ = some (.slice none 0 0) := (cells_at HA6.out 2).trans rfl
    have u3 : w6.cell? ⟨U, 3, none⟩ = some (.slice none 0 0) := (cells_at HA6.out 3).trans rfl
    have v0 : w6.cell? ⟨T, 0, none⟩ = some (.int .i64 0) := (cells_at HC6.out 0).trans rfl
    have v1 : w6.cell? ⟨T, 1, none⟩ = some (.slice none 0 0) := (cells_at HC6.out 1).trans rfl
    have v2 : w6.cell? ⟨T, 2, none⟩ = some (.slice none 0 0) := (cells_at HC6.out 2).trans rfl
    have v3 : w6.cell? ⟨T, 3, none⟩ = some (.slice none 0 0) := (cells_at HC6.out 3).trans rfl
    go_wp2_with fail
    refine HS6.out.mono ?_
    rintro e w7 ⟨rfl, hb7⟩
    have HB7 : Hid (Below w.heap.size w w7) := HB6.out.trans (hb7.mono HB6.out.size)
    clear hb7
    go_wp2
    go_ret
    exact ⟨rfl, HB7.out⟩
  · rw [show zero4 = (#[.int .i64 0, .slice none 0 0, .slice none 0 0, .slice none 0 0] : Array Value) from rfl]
    have HNO := hide' hyes
    have HR := hide' hr
    clear hyes hr
    go_upto_region 2 with fail
    have HA4 := hide' (alloc_new w3 (.cells #[.int .i64 0, .slice none 0 0, .slice none 0 0, .slice none 0 0] 25))
    have HB4 := hide' (HB3.out.alloc HB3.out.size (.cells #[.int .i64 0, .slice none 0 0, .slice none 0 0, .slice none 0 0] 25))
    have HY4 := hide' ((alloc_old w3 (.cells #[.int .i64 0, .slice none 0 0, .slice none 0 0, .slice none 0 0] 25) (Array.getElem?_eq_some_iff.1 HY3.out).1).trans HY3.out)
    have HBB4 := hide' (below_al w3 (.cells #[.int .i64 0, .slice none 0 0, .slice none 0 0, .slice none 0 0] 25))
    obtain ⟨w4, hw4⟩ : ∃ x, x = w3.alloc (.cells #[.int .i64 0, .slice none 0 0, .slice none 0 0, .slice none 0 0] 25) := ⟨_, rfl⟩
    obtain ⟨U, hUU⟩ : ∃ x, x = w3.heap.size := ⟨_, rfl⟩
    rw [← hw4] at HA4 HB4 HY4 HBB4 ⊢
    rw [← hUU] at HA4
    rw [show (Value.pointer (some { block := w3.heap.size, off := 0 })) = Value.pointer (some { block := U, off := 0 }) by rw [hUU]]
    clear hw4 hUU
    have y0 : w4.cell? ⟨Y, 0, none⟩ = some (.int .i64 pt) := (cells_at HY4.out 0).trans rfl
    have y1 : w4.cell? ⟨Y, 1, none⟩ = some (.slice af lf cf) := (cells_at HY4.out 1).trans rfl
    have y2 : w4.cell? ⟨Y, 2, none⟩ = some (.slice ad ld cd) := (cells_at HY4.out 2).trans rfl
    have y3 : w4.cell? ⟨Y, 3, none⟩ = some (.slice as' ls cs) := (cells_at HY4.out 3).trans rfl
    have HV4 := hide' (HVC.out w4 HB4.out)
    go_wp2_with fail
    refine HV4.out.mono ?_
    intro e w5 hmo
    obtain ⟨hmo, hb5⟩ := HMO.out _ _ _ _ hmo
    have HB5 : Hid (Below w.heap.size w w5) := HB4.out.trans (hb5.mono HB4.out.size)
    have HA5 := hide' ((hb5.block U (Array.getElem?_eq_some_iff.1 HA4.out).1).trans HA4.out)
    have HBB5 := hide' hb5
    clear hb5 HV4 y0 y1 y2 y3 HVC

    obtain rfl : e = .returned (.tuple #[.agg #[.int .i64 0, .slice none 0 0, .slice none 0 0, .slice none 0 0], .int .i64 4]) := by
      rcases hmo with ⟨h, _⟩ | ⟨_, _, h⟩ | ⟨_, j, h, h2, _⟩
      · rw [HNO.out] at h; cases h
      · exact h
      · have := HR.out; omega
    clear hmo
    go_upto_region 3 with fail
    have HC6 := hide' (alloc_new w5 (.cells #[.int .i64 0, .slice none 0 0, .slice none 0 0, .slice none 0 0] 25))
    have HB6 := hide' (HB5.out.alloc HB5.out.size (.cells #[.int .i64 0, .slice none 0 0, .slice none 0 0, .slice none 0 0] 25))
    have HA6 := hide' ((alloc_old w5 (.cells #[.int .i64 0, .slice none 0 0, .slice none 0 0, .slice none 0 0] 25) (Array.getElem?_eq_some_iff.1 HA5.out).1).trans HA5.out)
    have HS6 := hide' (HSZ.out (w5.alloc (.cells #[.int .i64 0, .slice none 0 0, .slice none 0 0, .slice none 0 0] 25)))
    obtain ⟨w6, hw6⟩ : ∃ x, x = w5.alloc (.cells #[.int .i64 0, .slice none 0 0, .slice none 0 0, .slice none 0 0] 25) := ⟨_, rfl⟩
    obtain ⟨T, hTT⟩ : ∃ x, x = w5.heap.size := ⟨_, rfl⟩
    rw [← hw6] at HC6 HB6 HA6 HS6 ⊢
    rw [← hTT] at HC6
    rw [show (Value.pointer (some { block := w5.heap.size, off := 0 })) = Value.pointer (some { block := T, off := 0 }) by rw [hTT]]
    clear hw6 hTT
    have u0 : w6.cell? ⟨U, 0, none⟩ = some (.int .i64 0) := (cells_at HA6.out 0).trans rfl
    have u1 : w6.cell? ⟨U, 1, none⟩ = some (.slice none 0 0) := (cells_at HA6.out 1).trans rfl
    have u2 : w6.cell? ⟨U, 2, none⟩ = some (.slice none 0 0) := (cells_at HA6.out 2).trans rfl
    have u3 : w6.cell? ⟨U, 3, none⟩ = some (.slice none 0 0) := (cells_at HA6.out 3).trans rfl
    have v0 : w6.cell? ⟨T, 0, none⟩ = some (.int .i64 0) := (cells_at HC6.out 0).trans rfl
    have v1 : w6.cell? ⟨T, 1, none⟩ = some (.slice none 0 0) := (cells_at HC6.out 1).trans rfl
    have v2 : w6.cell? ⟨T, 2, none⟩ = some (.slice none 0 0) := (cells_at HC6.out 2).trans rfl
    have v3 : w6.cell? ⟨T, 3, none⟩ = some (.slice none 0 0) := (cells_at HC6.out 3).trans rfl
    go_wp2_with fail
    refine HS6.out.mono ?_
    rintro e w7 ⟨rfl, hb7⟩
    have HB7 : Hid (Below w.heap.size w w7) := HB6.out.trans (hb7.mono HB6.out.size)
    clear hb7
    go_wp2
    go_ret
    exact ⟨rfl, HB7.out⟩
  · rw [show zero4 = (#[.int .i64 0, .slice none 0 0, .slice none 0 0, .slice none 0 0] : Array Value) from rfl]
    have HNO := hide' hyes
    have HJ := hide' hj
    have HNE := hide' hne
    clear hyes hj hne
    go_upto_region 2 with fail
    have HA4 := hide' (alloc_new w3 (.cells #[.int .i64 0, .slice none 0 0, .slice none 0 0, .slice none 0 0] 25))
    have HB4 := hide' (HB3.out.alloc HB3.out.size (.cells #[.int .i64 0, .slice none 0 0, .slice none 0 0, .slice none 0 0] 25))
    have HY4 := hide' ((alloc_old w3 (.cells #[.int .i64 0, .slice none 0 0, .slice none 0 0, .slice none 0 0] 25) (Array.getElem?_eq_some_iff.1 HY3.out).1).trans HY3.out)
    have HBB4 := hide' (below_al w3 (.cells #[.int .i64 0, .slice none 0 0, .slice none 0 0, .slice none 0 0] 25))
    obtain ⟨w4, hw4⟩ : ∃ x, x = w3.alloc (.cells #[.int .i64 0, .slice none 0 0, .slice none 0 0, .slice none 0 0] 25) := ⟨_, rfl⟩
    obtain ⟨U, hUU⟩ : ∃ x, x = w3.heap.size := ⟨_, rfl⟩
    rw [← hw4] at HA4 HB4 HY4 HBB4 ⊢
    rw [← hUU] at HA4
    rw [show (Value.pointer (some { block := w3.heap.size, off := 0 })) = Value.pointer (some { block := U, off := 0 }) by rw [hUU]]
    clear hw4 hUU
    have y0 : w4.cell? ⟨Y, 0, none⟩ = some (.int .i64 pt) := (cells_at HY4.out 0).trans rfl
    have y1 : w4.cell? ⟨Y, 1, none⟩ = some (.slice af lf cf) := (cells_at HY4.out 1).trans rfl
    have y2 : w4.cell? ⟨Y, 2, none⟩ = some (.slice ad ld cd) := (cells_at HY4.out 2).trans rfl
    have y3 : w4.cell? ⟨Y, 3, none⟩ = some (.slice as' ls cs) := (cells_at HY4.out 3).trans rfl
    have HV4 := hide' (HVC.out w4 HB4.out)
    go_wp2_with fail
    refine HV4.out.mono ?_
    intro e w5 hmo
    obtain ⟨hmo, hb5⟩ := HMO.out _ _ _ _ hmo
    have HB5 : Hid (Below w.heap.size w w5) := HB4.out.trans (hb5.mono HB4.out.size)
    have HA5 := hide' ((hb5.block U (Array.getElem?_eq_some_iff.1 HA4.out).1).trans HA4.out)
    have HBB5 := hide' hb5
    clear hb5 HV4 y0 y1 y2 y3 HVC

    obtain rfl : e = .returned (.tuple #[.agg #[.int .i64 0, .slice none 0 0, .slice none 0 0, .slice none 0 0], .int .i64 (moveErr y j)]) := by
      rcases hmo with ⟨h, _⟩ | ⟨_, h, _⟩ | ⟨_, j', h, _, ⟨_, h4⟩ | ⟨h4, _⟩⟩
      · rw [HNO.out] at h; cases h
      · have := HJ.out; omega
      · obtain rfl : j = j' := by omega
        exact h4
      · obtain rfl : j = j' := by omega
        exact absurd h4 HNE.out
    clear hmo
    go_upto_region 3 with fail
    have HC6 := hide' (alloc_new w5 (.cells #[.int .i64 0, .slice none 0 0, .slice none 0 0, .slice none 0 0] 25))
    have HB6 := hide' (HB5.out.alloc HB5.out.size (.cells #[.int .i64 0, .slice none 0 0, .slice none 0 0, .slice none 0 0] 25))
    have HA6 := hide' ((alloc_old w5 (.cells #[.int .i64 0, .slice none 0 0, .slice none 0 0, .slice none 0 0] 25) (Array.getElem?_eq_some_iff.1 HA5.out).1).trans HA5.out)
    have HS6 := hide' (HSZ.out (w5.alloc (.cells #[.int .i64 0, .slice none 0 0, .slice none 0 0, .slice none 0 0] 25)))
    obtain ⟨w6, hw6⟩ : ∃ x, x = w5.alloc (.cells #[.int .i64 0, .slice none 0 0, .slice none 0 0, .slice none 0 0] 25) := ⟨_, rfl⟩
    obtain ⟨T, hTT⟩ : ∃ x, x = w5.heap.size := ⟨_, rfl⟩
    rw [← hw6] at HC6 HB6 HA6 HS6 ⊢
    rw [← hTT] at HC6
    rw [show (Value.pointer (some { block := w5.heap.size, off := 0 })) = Value.pointer (some { block := T, off := 0 }) by rw [hTT]]
    clear hw6 hTT
    have u0 : w6.cell? ⟨U, 0, none⟩ = some (.int .i64 0) := (cells_at HA6.out 0).trans rfl
    have u1 : w6.cell? ⟨U, 1, none⟩ = some (.slice none 0 0) := (cells_at HA6.out 1).trans rfl
    have u2 : w6.cell? ⟨U, 2, none⟩ = some (.slice none 0 0) := (cells_at HA6.out 2).trans rfl
    have u3 : w6.cell? ⟨U, 3, none⟩ = some (.slice none 0 0) := (cells_at HA6.out 3).trans rfl
    have v0 : w6.cell? ⟨T, 0, none⟩ = some (.int .i64 0) := (cells_at HC6.out 0).trans rfl
    have v1 : w6.cell? ⟨T, 1, none⟩ = some (.slice none 0 0) := (cells_at HC6.out 1).trans rfl
    have v2 : w6.cell? ⟨T, 2, none⟩ = some (.slice none 0 0) := (cells_at HC6.out 2).trans rfl
    have v3 : w6.cell? ⟨T, 3, none⟩ = some (.slice none 0 0) := (cells_at HC6.out 3).trans rfl
    go_wp2_with fail
    refine HS6.out.mono ?_
    rintro e w7 ⟨rfl, hb7⟩
    have HB7 : Hid (Below w.heap.size w w7) := HB6.out.trans (hb7.mono HB6.out.size)
    clear hb7
    go_wp2
    go_ret
    exact ⟨rfl, HB7.out⟩
  · have HNO := hide' hyes
    have HJ := hide' hj
    have H0 := hide' h0
    have HYA := hide' hya
    clear hyes hj h0 hya
    go_upto_region 2 with fail
    have HA4 := hide' (alloc_new w3 (.cells #[.int .i64 pt, .slice ua lf uc, .slice ub ld ud, .slice us ls ue] 25))
    have HB4 := hide' (HB3.out.alloc HB3.out.size (.cells #[.int .i64 pt, .slice ua lf uc, .slice ub ld ud, .slice us ls ue] 25))
    have HY4 := hide' ((alloc_old w3 (.cells #[.int .i64 pt, .slice ua lf uc, .slice ub ld ud, .slice us ls ue] 25) (Array.getElem?_eq_some_iff.1 HY3.out).1).trans HY3.out)
    have HBB4 := hide' (below_al w3 (.cells #[.int .i64 pt, .slice ua lf uc, .slice ub ld ud, .slice us ls ue] 25))
    obtain ⟨w4, hw4⟩ : ∃ x, x = w3.alloc (.cells #[.int .i64 pt, .slice ua lf uc, .slice ub ld ud, .slice us ls ue] 25) := ⟨_, rfl⟩
    obtain ⟨U, hUU⟩ : ∃ x, x = w3.heap.size := ⟨_, rfl⟩
    rw [← hw4] at HA4 HB4 HY4 HBB4 ⊢
    rw [← hUU] at HA4
    rw [show (Value.pointer (some { block := w3.heap.size, off := 0 })) = Value.pointer (some { block := U, off := 0 }) by rw [hUU]]
    clear hw4 hUU
    have y0 : w4.cell? ⟨Y, 0, none⟩ = some (.int .i64 pt) := (cells_at HY4.out 0).trans rfl
    have y1 : w4.cell? ⟨Y, 1, none⟩ = some (.slice af lf cf) := (cells_at HY4.out 1).trans rfl
    have y2 : w4.cell? ⟨Y, 2, none⟩ = some (.slice ad ld cd) := (cells_at HY4.out 2).trans rfl
    have y3 : w4.cell? ⟨Y, 3, none⟩ = some (.slice as' ls cs) := (cells_at HY4.out 3).trans rfl
    have HV4 := hide' (HVC.out w4 HB4.out)
    go_wp2_with fail
    refine HV4.out.mono ?_
    intro e w5 hmo
    obtain ⟨hmo, hb5⟩ := HMO.out _ _ _ _ hmo
    have HB5 : Hid (Below w.heap.size w w5) := HB4.out.trans (hb5.mono HB4.out.size)
    have HA5 := hide' ((hb5.block U (Array.getElem?_eq_some_iff.1 HA4.out).1).trans HA4.out)
    have HBB5 := hide' hb5
    clear hb5 HV4 y0 y1 y2 y3 HVC

    obtain ⟨va, vb, vs, vc, vd, ve, rfl, hyb⟩ : ∃ va vb vs vc vd ve, e = .returned (.tuple #[.agg #[.int .i64 pt, .slice va lf vc, .slice vb ld vd, .slice vs ls ve], .int .i64 0]) ∧ YardAt w5 va vb vs vc vd ve (y.turn j) := by
      rcases hmo with ⟨h, _⟩ | ⟨_, h, _⟩ | ⟨_, j', h, _, ⟨h4, _⟩ | ⟨_, h4⟩⟩
      · rw [HNO.out] at h; cases h
      · have := HJ.out; omega
      · obtain rfl : j = j' := by omega
        exact absurd H0.out h4
      · obtain rfl : j = j' := by omega
        exact h4
    have HYB := hide' hyb
    clear hmo hyb
    go_upto_region 3 with fail
    have HC6 := hide' (alloc_new w5 (.cells #[.int .i64 pt, .slice va lf vc, .slice vb ld vd, .slice vs ls ve] 25))
    have HB6 := hide' (HB5.out.alloc HB5.out.size (.cells #[.int .i64 pt, .slice va lf vc, .slice vb ld vd, .slice vs ls ve] 25))
    have HA6 := hide' ((alloc_old w5 (.cells #[.int .i64 pt, .slice va lf vc, .slice vb ld vd, .slice vs ls ve] 25) (Array.getElem?_eq_some_iff.1 HA5.out).1).trans HA5.out)
    have HS6 := hide' (HSY.out j (HMY.out HNO.out) (w5.alloc (.cells #[.int .i64 pt, .slice va lf vc, .slice vb ld vd, .slice vs ls ve] 25)) ua ub us va vb vs uc ud ue vc vd ve (((HYA.out.below HBB4.out (Nat.le_refl _)).below HBB5.out (Nat.le_refl _)).below (below_al w5 (.cells #[.int .i64 pt, .slice va lf vc, .slice vb ld vd, .slice vs ls ve] 25)) (Nat.le_refl _)) (HYB.out.below (below_al w5 (.cells #[.int .i64 pt, .slice va lf vc, .slice vb ld vd, .slice vs ls ve] 25)) (Nat.le_refl _)))
    clear HYA HYB
    obtain ⟨w6, hw6⟩ : ∃ x, x = w5.alloc (.cells #[.int .i64 pt, .slice va lf vc, .slice vb ld vd, .slice vs ls ve] 25) := ⟨_, rfl⟩
    obtain ⟨T, hTT⟩ : ∃ x, x = w5.heap.size := ⟨_, rfl⟩
    rw [← hw6] at HC6 HB6 HA6 HS6 ⊢
    rw [← hTT] at HC6
    rw [show (Value.pointer (some { block := w5.heap.size, off := 0 })) = Value.pointer (some { block := T, off := 0 }) by rw [hTT]]
    clear hw6 hTT
    have u0 : w6.cell? ⟨U, 0, none⟩ = some (.int .i64 pt) := (cells_at HA6.out 0).trans rfl
    have u1 : w6.cell? ⟨U, 1, none⟩ = some (.slice ua lf uc) := (cells_at HA6.out 1).trans rfl
    have u2 : w6.cell? ⟨U, 2, none⟩ = some (.slice ub ld ud) := (cells_at HA6.out 2).trans rfl
    have u3 : w6.cell? ⟨U, 3, none⟩ = some (.slice us ls ue) := (cells_at HA6.out 3).trans rfl
    have v0 : w6.cell? ⟨T, 0, none⟩ = some (.int .i64 pt) := (cells_at HC6.out 0).trans rfl
    have v1 : w6.cell? ⟨T, 1, none⟩ = some (.slice va lf vc) := (cells_at HC6.out 1).trans rfl
    have v2 : w6.cell? ⟨T, 2, none⟩ = some (.slice vb ld vd) := (cells_at HC6.out 2).trans rfl
    have v3 : w6.cell? ⟨T, 3, none⟩ = some (.slice vs ls ve) := (cells_at HC6.out 3).trans rfl
    go_wp2_with fail
    refine HS6.out.mono ?_
    rintro e w7 ⟨rfl, hb7⟩
    have HB7 : Hid (Below w.heap.size w w7) := HB6.out.trans (hb7.mono HB6.out.size)
    clear hb7
    go_wp2
    go_ret
    exact ⟨rfl, HB7.out⟩
end Go.Proofs.Ytcnoipcpifackah
