/- RemoteTicks answers true. -/
import Derived.Test.YtjhmendiefojoamS5
namespace Go.Proofs.Ytjhmendiefojoam
open Go.RowKit Go.Shelf

set_option maxRecDepth 100000 in
set_option maxHeartbeats 4000000 in
theorem RemoteTicks_any (S : StM) (l : List Bool) (n c : Nat) (a : Option Addr) (w : World) (hr : RowAt w (.slice a n c) n 1 (l.map Value.bool)) (hn : n ≤ 2000000) : Calls Try.prog 3 #[.agg (S.cells (.slice a n c))] w fun e w' => e = .returned (.bool true) ∧ Below w.heap.size w w' := by
  have hln : l.length = n := by have h := hr.1; simpa using h
  have HO := hide' (fun w' (hb : Below w.heap.size w w') => StationOf_any S l n c a w' (hr.below hb (Nat.le_refl _)) hn)
  obtain ⟨l1, T, code, HT, HU, HL⟩ : ∃ (l1 : List Bool) (T : StM) (code : Int), Hid (∀ a' c' w', RowAt w' (.slice a' n c') n 1 (l.map Value.bool) → Calls Try.prog 8 #[.agg (S.cells (.slice a' n c'))] w' (StaO l1 T code w')) ∧ Hid (∀ w', Below w.heap.size w w' → Calls Try.prog 10 #[.agg (S.cells (.slice a n c))] w' (StaO l1 T code w')) ∧ Hid (l1.length ≤ 2000000) := by
    cases hm : mayS n S with
    | true =>
      refine ⟨l, tickS S, 0, fun a' c' w' h => (Tick_any S l n c' a' w' h hn).mono ?_, fun w' hb => (TickOf_any S l n c a w' (hr.below hb (Nat.le_refl _)) hn).mono ?_, ?_⟩
      · intro e w2 h2; rw [if_pos hm] at h2; exact h2
      · intro e w2 h2; rw [if_pos hm] at h2; exact h2
      · show _ ≤ _; omega
    | false =>
      refine ⟨[], StM.nought, 14, fun a' c' w' h => (Tick_any S l n c' a' w' h hn).mono ?_, fun w' hb => (TickOf_any S l n c a w' (hr.below hb (Nat.le_refl _)) hn).mono ?_, ?_⟩
      · intro e w2 h2; rw [if_neg (by rw [hm]; decide)] at h2; exact h2
      · intro e w2 h2; rw [if_neg (by rw [hm]; decide)] at h2; exact h2
      · show _ ≤ _; simp
  have HS := hide' (fun w' ca cb aa ab hu hv => sameStation_same T l1 l1.length ca cb aa ab w' hu hv (by have := HL.out; omega))
  clear hr hn hln HL
  unfold StaO at HT HU
  obtain ⟨m, hm⟩ : ∃ m, m = l1.length := ⟨_, rfl⟩
  rw [← hm] at HT HU HS
  clear hm
  obtain ⟨last, armed, point, want, left, pat⟩ := S
  obtain ⟨tlast, tarmed, tpoint, twant, tleft, tpat⟩ := T
  unfold StM.cells at HO HT HU HS ⊢
  simp only at HO HT HU HS ⊢
  go_enter Try.func3, Try.ntmps3
  go_upto_region 1 with fail
  have hqY := alloc_new w (.cells #[.slice a n c, .int .i64 last, .int .i64 armed, .int .i64 point, .bool want, .int .i64 left, .int .i64 pat] 24)
  have hb1 := below_al w (.cells #[.slice a n c, .int .i64 last, .int .i64 armed, .int .i64 point, .bool want, .int .i64 left, .int .i64 pat] 24)
  obtain ⟨w1, hw1⟩ : ∃ x, x = (w.alloc (.cells #[.slice a n c, .int .i64 last, .int .i64 armed, .int .i64 point, .bool want, .int .i64 left, .int .i64 pat] 24)) := ⟨_, rfl⟩
  rw [← hw1] at hqY hb1 ⊢
  obtain ⟨Y, hnY⟩ : ∃ x, x = w.heap.size := ⟨_, rfl⟩
  have HNE : Hid (w.heap.size ≤ Y) := by show _ ≤ _; omega
  rw [← hnY] at hqY
  rw [show (Value.pointer (some { block := w.heap.size, off := 0 })) = Value.pointer (some { block := Y, off := 0 }) by rw [hnY]]
  have HQY := hide' hqY
  have HB1 := hide' hb1
  clear hqY hb1 hw1 hnY
  have c0 : w1.cell? ⟨Y, 0, none⟩ = some (.slice a n c) := (cells_at HQY.out 0).trans rfl
  have c1 : w1.cell? ⟨Y, 1, none⟩ = some (.int .i64 last) := (cells_at HQY.out 1).trans rfl
  have c2 : w1.cell? ⟨Y, 2, none⟩ = some (.int .i64 armed) := (cells_at HQY.out 2).trans rfl
  have c3 : w1.cell? ⟨Y, 3, none⟩ = some (.int .i64 point) := (cells_at HQY.out 3).trans rfl
  have c4 : w1.cell? ⟨Y, 4, none⟩ = some (.bool want) := (cells_at HQY.out 4).trans rfl
  have c5 : w1.cell? ⟨Y, 5, none⟩ = some (.int .i64 left) := (cells_at HQY.out 5).trans rfl
  have c6 : w1.cell? ⟨Y, 6, none⟩ = some (.int .i64 pat) := (cells_at HQY.out 6).trans rfl
  go_wp2_with fail
  refine (HO.out w1 HB1.out).mono ?_
  rintro e w2 ⟨a0, c0', rfl, ho, hb2⟩
  have HB2 : Hid (Below w.heap.size w w2) := HB1.out.trans (hb2.mono HB1.out.size)
  have HY2 := hide' ((hb2.block Y (lt_heap HQY.out)).trans HQY.out)
  have HT2 := hide' (HT.out a0 c0' w2 (rowAt_of_own ho))
  clear hb2 ho HT HO HB1 HQY
  clear c0 c1 c2 c3 c4 c5 c6
  go_wp2_with fail
  refine HT2.out.mono ?_
  rintro e w3 ⟨a1, c1, rfl, hr3, hb3⟩
  have HB3 : Hid (Below w.heap.size w w3) := HB2.out.trans (hb3.mono HB2.out.size)
  have HY3 := hide' ((hb3.block Y (lt_heap HY2.out)).trans HY2.out)
  have HR3 := hide' hr3
  clear hb3 hr3 HT2 HB2 HY2
  go_upto_region 2 with fail
  have HC4 := hide' (alloc_new w3 (.cells #[.slice a1 m c1, .int .i64 tlast, .int .i64 tarmed, .int .i64 tpoint, .bool twant, .int .i64 tleft, .int .i64 tpat] 24))
  have HB4 := hide' (HB3.out.alloc HB3.out.size (.cells #[.slice a1 m c1, .int .i64 tlast, .int .i64 tarmed, .int .i64 tpoint, .bool twant, .int .i64 tleft, .int .i64 tpat] 24))
  have HY4 := hide' ((alloc_old w3 (.cells #[.slice a1 m c1, .int .i64 tlast, .int .i64 tarmed, .int .i64 tpoint, .bool twant, .int .i64 tleft, .int .i64 tpat] 24) (lt_heap HY3.out)).trans HY3.out)
  have HR4 := hide' (HR3.out.below (below_al w3 (.cells #[.slice a1 m c1, .int .i64 tlast, .int .i64 tarmed, .int .i64 tpoint, .bool twant, .int .i64 tleft, .int .i64 tpat] 24)) (Nat.le_refl _))
  obtain ⟨w4, hw4⟩ : ∃ x, x = w3.alloc (.cells #[.slice a1 m c1, .int .i64 tlast, .int .i64 tarmed, .int .i64 tpoint, .bool twant, .int .i64 tleft, .int .i64 tpat] 24) := ⟨_, rfl⟩
  obtain ⟨C, hC⟩ : ∃ x, x = w3.heap.size := ⟨_, rfl⟩
  rw [← hw4] at HC4 HB4 HY4 HR4 ⊢
  rw [← hC] at HC4
  rw [show (Value.pointer (some { block := w3.heap.size, off := 0 })) = Value.pointer (some { block := C, off := 0 }) by rw [hC]]
  clear hw4 hC HB3 HY3 HR3
  have y0 : w4.cell? ⟨Y, 0, none⟩ = some (.slice a n c) := (cells_at HY4.out 0).trans rfl
  have y1 : w4.cell? ⟨Y, 1, none⟩ = some (.int .i64 last) := (cells_at HY4.out 1).trans rfl
  have y2 : w4.cell? ⟨Y, 2, none⟩ = some (.int .i64 armed) := (cells_at HY4.out 2).trans rfl
  have y3 : w4.cell? ⟨Y, 3, none⟩ = some (.int .i64 point) := (cells_at HY4.out 3).trans rfl
  have y4 : w4.cell? ⟨Y, 4, none⟩ = some (.bool want) := (cells_at HY4.out 4).trans rfl
  have y5 : w4.cell? ⟨Y, 5, none⟩ = some (.int .i64 left) := (cells_at HY4.out 5).trans rfl
  have y6 : w4.cell? ⟨Y, 6, none⟩ = some (.int .i64 pat) := (cells_at HY4.out 6).trans rfl
  go_wp2_with fail
  refine (HU.out w4 HB4.out).mono ?_
  rintro e w5 ⟨a2, c2, rfl, hr5, hb5⟩
  have HB5 : Hid (Below w.heap.size w w5) := HB4.out.trans (hb5.mono HB4.out.size)
  have HC5 := hide' ((hb5.block C (lt_heap HC4.out)).trans HC4.out)
  have HR5 := hide' (HR4.out.below hb5 (Nat.le_refl _))
  have HV5 := hide' hr5
  clear hb5 hr5 HU HB4 HC4 HR4 HY4
  clear y0 y1 y2 y3 y4 y5 y6
  go_upto_region 3 with fail
  have HD6 := hide' (alloc_new w5 (.cells #[.slice a2 m c2, .int .i64 tlast, .int .i64 tarmed, .int .i64 tpoint, .bool twant, .int .i64 tleft, .int .i64 tpat] 24))
  have HB6 := hide' (HB5.out.alloc HB5.out.size (.cells #[.slice a2 m c2, .int .i64 tlast, .int .i64 tarmed, .int .i64 tpoint, .bool twant, .int .i64 tleft, .int .i64 tpat] 24))
  have HC6 := hide' ((alloc_old w5 (.cells #[.slice a2 m c2, .int .i64 tlast, .int .i64 tarmed, .int .i64 tpoint, .bool twant, .int .i64 tleft, .int .i64 tpat] 24) (lt_heap HC5.out)).trans HC5.out)
  have HR6 := hide' (HR5.out.below (below_al w5 (.cells #[.slice a2 m c2, .int .i64 tlast, .int .i64 tarmed, .int .i64 tpoint, .bool twant, .int .i64 tleft, .int .i64 tpat] 24)) (Nat.le_refl _))
  have HV6 := hide' (HV5.out.below (below_al w5 (.cells #[.slice a2 m c2, .int .i64 tlast, .int .i64 tarmed, .int .i64 tpoint, .bool twant, .int .i64 tleft, .int .i64 tpat] 24)) (Nat.le_refl _))
  obtain ⟨w6, hw6⟩ : ∃ x, x = w5.alloc (.cells #[.slice a2 m c2, .int .i64 tlast, .int .i64 tarmed, .int .i64 tpoint, .bool twant, .int .i64 tleft, .int .i64 tpat] 24) := ⟨_, rfl⟩
  obtain ⟨D, hD⟩ : ∃ x, x = w5.heap.size := ⟨_, rfl⟩
  rw [← hw6] at HD6 HB6 HC6 HR6 HV6 ⊢
  rw [← hD] at HD6
  rw [show (Value.pointer (some { block := w5.heap.size, off := 0 })) = Value.pointer (some { block := D, off := 0 }) by rw [hD]]
  clear hw6 hD HB5 HC5 HR5 HV5
  have p0 : w6.cell? ⟨C, 0, none⟩ = some (.slice a1 m c1) := (cells_at HC6.out 0).trans rfl
  have p1 : w6.cell? ⟨C, 1, none⟩ = some (.int .i64 tlast) := (cells_at HC6.out 1).trans rfl
  have p2 : w6.cell? ⟨C, 2, none⟩ = some (.int .i64 tarmed) := (cells_at HC6.out 2).trans rfl
  have p3 : w6.cell? ⟨C, 3, none⟩ = some (.int .i64 tpoint) := (cells_at HC6.out 3).trans rfl
  have p4 : w6.cell? ⟨C, 4, none⟩ = some (.bool twant) := (cells_at HC6.out 4).trans rfl
  have p5 : w6.cell? ⟨C, 5, none⟩ = some (.int .i64 tleft) := (cells_at HC6.out 5).trans rfl
  have p6 : w6.cell? ⟨C, 6, none⟩ = some (.int .i64 tpat) := (cells_at HC6.out 6).trans rfl
  have q0 : w6.cell? ⟨D, 0, none⟩ = some (.slice a2 m c2) := (cells_at HD6.out 0).trans rfl
  have q1 : w6.cell? ⟨D, 1, none⟩ = some (.int .i64 tlast) := (cells_at HD6.out 1).trans rfl
  have q2 : w6.cell? ⟨D, 2, none⟩ = some (.int .i64 tarmed) := (cells_at HD6.out 2).trans rfl
  have q3 : w6.cell? ⟨D, 3, none⟩ = some (.int .i64 tpoint) := (cells_at HD6.out 3).trans rfl
  have q4 : w6.cell? ⟨D, 4, none⟩ = some (.bool twant) := (cells_at HD6.out 4).trans rfl
  have q5 : w6.cell? ⟨D, 5, none⟩ = some (.int .i64 tleft) := (cells_at HD6.out 5).trans rfl
  have q6 : w6.cell? ⟨D, 6, none⟩ = some (.int .i64 tpat) := (cells_at HD6.out 6).trans rfl
  have HS6 := hide' (HS.out w6 _ _ _ _ HR6.out HV6.out)
  clear HS HC6 HD6 HR6 HV6
  go_wp2_with fail
  refine HS6.out.mono ?_
  rintro e w7 ⟨rfl, hb7⟩
  have HB7 : Hid (Below w.heap.size w w7) := HB6.out.trans (hb7.mono HB6.out.size)
  clear hb7 HS6 HB6
  go_wp2
  go_ret
  exact ⟨rfl, HB7.out⟩
end Go.Proofs.Ytjhmendiefojoam
