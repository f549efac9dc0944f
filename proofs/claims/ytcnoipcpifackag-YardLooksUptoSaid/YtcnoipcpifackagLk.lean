/- YardLooks answers true. -/
import Derived.Test.YtcnoipcpifackagZ6
import Derived.Test.YtcnoipcpifackagZ2
namespace Go.Proofs.Ytcnoipcpifackag
open Go.RowKit Go.Shelf

theorem bit_cell {w : World} {v : Value} {l : List Bool} {n : Nat} (h : RowAt w v n 1 (l.map Value.bool)) (k : Nat) (hk : k < l.length) : ∃ b off c, v = .slice (some ⟨b, off, none⟩) n c ∧ w.cell? ⟨b, off + k, none⟩ = some (.bool (l.getD k false)) := by
  obtain ⟨_, a, c, rfl, h2⟩ := h
  obtain ⟨b, off, rfl, h3⟩ := h2 k (.bool (l.getD k false)) (by rw [List.getElem?_map, List.getElem?_eq_getElem hk, List.getD_eq_getElem?_getD, List.getElem?_eq_getElem hk]; rfl)
  exact ⟨b, off, c, rfl, h3⟩
set_option maxRecDepth 100000 in
set_option maxHeartbeats 2000000 in
theorem sameSides_same (l : List Bool) (n : Nat) (u v : Value) (w : World) (hu : RowAt w u n 1 (l.map Value.bool)) (hv : RowAt w v n 1 (l.map Value.bool)) (hn : n ≤ 1000) :
    Calls Try.prog 20 #[u, v] w fun e w' => e = .returned (.bool true) ∧ Below w.heap.size w w' := by
  have HU := hide' hu
  have HV := hide' hv
  have HL : Hid (l.length = n) := by show _ = _; have h := hu.1; simpa using h
  obtain ⟨au, cu, rfl⟩ := rowAt_slice hu
  obtain ⟨av, cv, rfl⟩ := rowAt_slice hv
  clear hu hv
  go_enter Try.func20, Try.ntmps20
  go_wp2_with fail
  go_loopw [5] (fun i wr => ∃ (k : Nat), i = .int .i64 k ∧ k ≤ n ∧ Hid (Below w.heap.size w wr)) (fun i _ => n - (intOf i).toNat)
  case atStart => exact ⟨0, rfl, Nat.zero_le _, Below.refl _ w⟩
  case round =>
    obtain ⟨k, rfl, hk, HBE⟩ := hrel
    by_cases hlt : k < n
    · obtain ⟨b1, o1, c1, ex1, hc1⟩ := bit_cell HU.out k (by rw [HL.out]; exact hlt)
      cases ex1
      obtain ⟨b2, o2, c2, ex2, hc2⟩ := bit_cell HV.out k (by rw [HL.out]; exact hlt)
      cases ex2
      have e1 := up_cell HBE.out hc1
      have e2 := up_cell HBE.out hc2
      obtain ⟨x, hx⟩ : ∃ x, x = l.getD k false := ⟨_, rfl⟩
      rw [← hx] at e1 e2
      have hxx : (x != x) = false := by cases x <;> rfl
      have HBD : Hid (∀ m, Below w.heap.size w (wr.drewN m)) := fun m => below_drewN HBE.out m
      clear hc1 hc2 hx HBE
      go_wp2_with fail
      go_quiet (fail)
      go_wp2
      go_roundw
      case rel => exact ⟨k + 1, by go_num, by omega, HBD.out _⟩
      case measure => simp [intOf]; omega
    · go_wp2
      go_ret
      exact ⟨rfl, HBE.out⟩
set_option maxRecDepth 100000 in
set_option maxHeartbeats 2000000 in
theorem YardLooks_any (y : YardM) (af ad as' : Option Addr) (cf cd cs : Nat) (w : World) (hy : YardAt w af ad as' cf cd cs y) (hf : y.fed.length ≤ 2000000) (hd : y.drawn.length ≤ 2000000) (hs : y.devs.length ≤ 2000000) :
    Calls Try.prog 8 #[.agg #[.int .i64 y.points, .slice af y.fed.length cf, .slice ad y.drawn.length cd, .slice as' y.devs.length cs]] w fun e w' => e = .returned (.bool true) ∧ Below w.heap.size w w' := by
  have HOF : Hid (∀ w', Below w.heap.size w w' → Calls Try.prog 25 #[.agg #[.int .i64 y.points, .slice af y.fed.length cf, .slice ad y.drawn.length cd, .slice as' y.devs.length cs]] w' fun e w2 => ∃ af2 ad2 as2 cf2 cd2 cs2, e = .returned (.agg #[.int .i64 y.points, .slice af2 y.fed.length cf2, .slice ad2 y.drawn.length cd2, .slice as2 y.devs.length cs2]) ∧ YardAt w2 af2 ad2 as2 cf2 cd2 cs2 y ∧ Below w'.heap.size w' w2) := fun w' hb => YardOf_any y af ad as' cf cd cs w' (hy.below hb (Nat.le_refl _)) hf hd hs
  have HLK : Hid (∀ w' af2 ad2 as2 cf2 cd2 cs2, YardAt w' af2 ad2 as2 cf2 cd2 cs2 y → Calls Try.prog 24 #[.agg #[.int .i64 y.points, .slice af2 y.fed.length cf2, .slice ad2 y.drawn.length cd2, .slice as2 y.devs.length cs2]] w' (LookO y w')) := fun w' af2 ad2 as2 cf2 cd2 cs2 h => Look_any y af2 ad2 as2 cf2 cd2 cs2 w' h (by omega) (by omega) (by omega)
  have HMY : Hid (∀ w', Below w.heap.size w w' → Calls Try.prog 26 #[.agg #[.int .i64 y.points, .slice af y.fed.length cf, .slice ad y.drawn.length cd, .slice as' y.devs.length cs]] w' fun e w2 => e = .returned (.bool (mayYB y)) ∧ Below w'.heap.size w' w2) := fun w' hb => YardMay_any y af ad as' cf cd cs w' (hy.below hb (Nat.le_refl _)) (by omega) (by omega) (by omega)
  have HLI : Hid (∀ w', MayY y → Below w.heap.size w w' → Calls Try.prog 27 #[.agg #[.int .i64 y.points, .slice af y.fed.length cf, .slice ad y.drawn.length cd, .slice as' y.devs.length cs]] w' fun e w2 => ∃ T c, e = .returned (.slice (some ⟨T, 0, none⟩) y.n c) ∧ w2.ownsRow w'.heap.size 4 1 (.slice (some ⟨T, 0, none⟩) y.n c) y.n (y.live.map Value.bool) ∧ Below w'.heap.size w' w2) := fun w' hm hb => LiveIn_any y hm af ad as' cf cd cs w' (hy.below hb (Nat.le_refl _))
  have HEI : Hid (∀ w', MayY y → Below w.heap.size w w' → Calls Try.prog 28 #[.agg #[.int .i64 y.points, .slice af y.fed.length cf, .slice ad y.drawn.length cd, .slice as' y.devs.length cs]] w' fun e w2 => ∃ T c, e = .returned (.slice (some ⟨T, 0, none⟩) y.n c) ∧ w2.ownsRow w'.heap.size 4 1 (.slice (some ⟨T, 0, none⟩) y.n c) y.n (y.earthed.map Value.bool) ∧ Below w'.heap.size w' w2) := fun w' hm hb => EarthedIn_any y hm af ad as' cf cd cs w' (hy.below hb (Nat.le_refl _))
  have HI := hide' (mayYB_iff (y := y))
  have HN10 : Hid (MayY y → y.n ≤ 1000) := fun hm => by have := hm.n_le; omega
  have HQ := hide' (alloc_new w (.cells #[.int .i64 y.points, .slice af y.fed.length cf, .slice ad y.drawn.length cd, .slice as' y.devs.length cs] 52))
  have HB := hide' (below_al w (.cells #[.int .i64 y.points, .slice af y.fed.length cf, .slice ad y.drawn.length cd, .slice as' y.devs.length cs] 52))
  obtain ⟨lf, hlf⟩ : ∃ l, l = y.fed.length := ⟨_, rfl⟩
  obtain ⟨ld, hld⟩ : ∃ l, l = y.drawn.length := ⟨_, rfl⟩
  obtain ⟨ls, hls⟩ : ∃ l, l = y.devs.length := ⟨_, rfl⟩
  obtain ⟨pt, hpt⟩ : ∃ p, p = y.points := ⟨_, rfl⟩
  rw [← hlf, ← hld, ← hls, ← hpt] at HOF HLK HMY HLI HEI HQ HB ⊢
  clear hlf hld hls hpt hf hd hs hy
  go_enter Try.func8, Try.ntmps8
  go_upto_region 1 with fail
  obtain ⟨w1, hw1⟩ : ∃ x, x = w.alloc (.cells #[.int .i64 pt, .slice af lf cf, .slice ad ld cd, .slice as' ls cs] 52) := ⟨_, rfl⟩
  obtain ⟨Y, hY⟩ : ∃ x, x = w.heap.size := ⟨_, rfl⟩
  rw [← hw1] at HQ HB ⊢
  rw [← hY] at HQ
  rw [show (Value.pointer (some { block := w.heap.size, off := 0 })) = Value.pointer (some { block := Y, off := 0 }) by rw [hY]]
  clear hw1 hY
  have p0 : w1.cell? ⟨Y, 0, none⟩ = some (.int .i64 pt) := (cells_at HQ.out 0).trans rfl
  have p1 : w1.cell? ⟨Y, 1, none⟩ = some (.slice af lf cf) := (cells_at HQ.out 1).trans rfl
  have p2 : w1.cell? ⟨Y, 2, none⟩ = some (.slice ad ld cd) := (cells_at HQ.out 2).trans rfl
  have p3 : w1.cell? ⟨Y, 3, none⟩ = some (.slice as' ls cs) := (cells_at HQ.out 3).trans rfl
  have HO1 := hide' (HOF.out w1 HB.out)
  go_wp2_with fail
  refine HO1.out.mono ?_
  rintro e w2 ⟨af2, ad2, as2, cf2, cd2, cs2, rfl, hya, hb2⟩
  have HB2 : Hid (Below w.heap.size w w2) := HB.out.trans (hb2.mono HB.out.size)
  have HQ2 := hide' ((hb2.block Y (Array.getElem?_eq_some_iff.1 HQ.out).1).trans HQ.out)
  have HL2 := hide' (HLK.out w2 af2 ad2 as2 cf2 cd2 cs2 hya)
  clear hya hb2 HO1 HOF HLK HQ HB p0 p1 p2 p3
  go_wp2_with fail
  refine HL2.out.mono ?_
  intro e w3 hlo
  obtain ⟨hlo, hb3⟩ := hlo
  have HB3 : Hid (Below w.heap.size w w3) := HB2.out.trans (hb3.mono HB2.out.size)
  have HQ3 := hide' ((hb3.block Y (Array.getElem?_eq_some_iff.1 HQ2.out).1).trans HQ2.out)
  clear hb3 HL2 HQ2
  have p0 : w3.cell? ⟨Y, 0, none⟩ = some (.int .i64 pt) := (cells_at HQ3.out 0).trans rfl
  have p1 : w3.cell? ⟨Y, 1, none⟩ = some (.slice af lf cf) := (cells_at HQ3.out 1).trans rfl
  have p2 : w3.cell? ⟨Y, 2, none⟩ = some (.slice ad ld cd) := (cells_at HQ3.out 2).trans rfl
  have p3 : w3.cell? ⟨Y, 3, none⟩ = some (.slice as' ls cs) := (cells_at HQ3.out 3).trans rfl
  have HM3 := hide' (HMY.out w3 HB3.out)
  rcases hlo with ⟨hno, rfl⟩ | ⟨hyes, L, E, rfl, hol, hoe⟩
  · rw [hno] at HM3
    clear hno HMY
    go_wp2_with fail
    refine HM3.out.mono ?_
    rintro e w4 ⟨rfl, hb4⟩
    have HB4 : Hid (Below w.heap.size w w4) := HB3.out.trans (hb4.mono HB3.out.size)
    clear hb4 HM3 p0 p1 p2 p3
    go_wp2
    go_ret
    exact ⟨rfl, HB4.out⟩
  · have HMAY : Hid (MayY y) := HI.out.1 hyes
    rw [hyes] at HM3
    have HOL := hide' hol
    have HOE := hide' hoe
    clear hyes HMY hol hoe
    go_wp2_with fail
    refine HM3.out.mono ?_
    rintro e w4 ⟨rfl, hb4⟩
    have HB4 : Hid (Below w.heap.size w w4) := HB3.out.trans (hb4.mono HB3.out.size)
    have HQ4 := hide' ((hb4.block Y (Array.getElem?_eq_some_iff.1 HQ3.out).1).trans HQ3.out)
    have HOL4 := hide' (own_below HOL.out hb4 (Nat.le_refl _))
    have HOE4 := hide' (own_below HOE.out hb4 (Nat.le_refl _))
    clear hb4 HM3 p0 p1 p2 p3 HQ3 HOL HOE
    have p0 : w4.cell? ⟨Y, 0, none⟩ = some (.int .i64 pt) := (cells_at HQ4.out 0).trans rfl
    have p1 : w4.cell? ⟨Y, 1, none⟩ = some (.slice af lf cf) := (cells_at HQ4.out 1).trans rfl
    have p2 : w4.cell? ⟨Y, 2, none⟩ = some (.slice ad ld cd) := (cells_at HQ4.out 2).trans rfl
    have p3 : w4.cell? ⟨Y, 3, none⟩ = some (.slice as' ls cs) := (cells_at HQ4.out 3).trans rfl
    have HL4 := hide' (HLI.out w4 HMAY.out HB4.out)
    go_wp2_with fail
    refine HL4.out.mono ?_
    rintro e w5 ⟨T1, c1, rfl, ho5, hb5⟩
    have HB5 : Hid (Below w.heap.size w w5) := HB4.out.trans (hb5.mono HB4.out.size)
    have HQ5 := hide' ((hb5.block Y (Array.getElem?_eq_some_iff.1 HQ4.out).1).trans HQ4.out)
    have HOE5 := hide' (own_below HOE4.out hb5 (Nat.le_refl _))
    have HS5 := hide' (sameSides_same y.live y.n _ _ w5 (rowAt_of_own (own_below HOL4.out hb5 (Nat.le_refl _))) (rowAt_of_own ho5) (HN10.out HMAY.out))
    clear hb5 ho5 HL4 p0 p1 p2 p3 HQ4 HOL4 HOE4 HLI
    go_wp2_with fail
    refine HS5.out.mono ?_
    rintro e w6 ⟨rfl, hb6⟩
    have HB6 : Hid (Below w.heap.size w w6) := HB5.out.trans (hb6.mono HB5.out.size)
    have HQ6 := hide' ((hb6.block Y (Array.getElem?_eq_some_iff.1 HQ5.out).1).trans HQ5.out)
    have HOE6 := hide' (own_below HOE5.out hb6 (Nat.le_refl _))
    clear hb6 HS5 HQ5 HOE5
    have p0 : w6.cell? ⟨Y, 0, none⟩ = some (.int .i64 pt) := (cells_at HQ6.out 0).trans rfl
    have p1 : w6.cell? ⟨Y, 1, none⟩ = some (.slice af lf cf) := (cells_at HQ6.out 1).trans rfl
    have p2 : w6.cell? ⟨Y, 2, none⟩ = some (.slice ad ld cd) := (cells_at HQ6.out 2).trans rfl
    have p3 : w6.cell? ⟨Y, 3, none⟩ = some (.slice as' ls cs) := (cells_at HQ6.out 3).trans rfl
    have HE6 := hide' (HEI.out w6 HMAY.out HB6.out)
    go_wp2_with fail
    refine HE6.out.mono ?_
    rintro e w7 ⟨T2, c2, rfl, ho7, hb7⟩
    have HB7 : Hid (Below w.heap.size w w7) := HB6.out.trans (hb7.mono HB6.out.size)
    have HS7 := hide' (sameSides_same y.earthed y.n _ _ w7 (rowAt_of_own (own_below HOE6.out hb7 (Nat.le_refl _))) (rowAt_of_own ho7) (HN10.out HMAY.out))
    clear hb7 ho7 HE6 p0 p1 p2 p3 HOE6
    go_wp2_with fail
    refine HS7.out.mono ?_
    rintro e w8 ⟨rfl, hb8⟩
    have HB8 : Hid (Below w.heap.size w w8) := HB7.out.trans (hb8.mono HB7.out.size)
    clear hb8 HS7
    go_wp2
    go_ret
    exact ⟨rfl, HB8.out⟩
end Go.Proofs.Ytcnoipcpifackag
