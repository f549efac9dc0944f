/- RemoteBegins answers true. -/
import Derived.Test.YtjhmendiefojoalS8
namespace Go.Proofs.Ytjhmendiefojoal
open Go.RowKit Go.Shelf

set_option maxRecDepth 100000 in
set_option maxHeartbeats 4000000 in
theorem RemoteBegins_any (l : List Bool) (v : Value) (p q : Int) (w : World) (hr : RowAt w v l.length 1 (l.map Value.bool)) (hn : l.length ≤ 2000000) : Calls Try.prog 4 #[v, .int .i64 p, .int .i64 q] w fun e w' => e = .returned (.bool true) ∧ Below w.heap.size w w' := by
  obtain ⟨l1, T, code, HT, HU, HL⟩ : ∃ (l1 : List Bool) (T : StM) (code : Int), Hid (∀ a' c' w', RowAt w' (.slice a' l.length c') l.length 1 (l.map Value.bool) → Calls Try.prog 8 #[.slice a' l.length c', .int .i64 p] w' (StaO l1 T code w')) ∧ Hid (∀ a' c' w', RowAt w' (.slice a' l.length c') l.length 1 (l.map Value.bool) → Calls Try.prog 10 #[.slice a' l.length c', .int .i64 p] w' (StaO l1 T code w')) ∧ Hid (l1.length ≤ 2000000) := by
    have key : ∃ l1 T code, BegO l l.length p l1 T code ∧ l1.length ≤ 2000000 := by
      by_cases h1 : 16 < l.length
      · exact ⟨[], StM.nought, 2, .inl ⟨h1, rfl, rfl, rfl⟩, by simp⟩
      · by_cases h2 : 1 ≤ p ∧ p ≤ 1000
        · exact ⟨l, _, 0, .inr (.inr ⟨by omega, h2, rfl, rfl, rfl⟩), hn⟩
        · exact ⟨[], StM.nought, 4, .inr (.inl ⟨by omega, h2, rfl, rfl, rfl⟩), by simp⟩
    obtain ⟨l1, T, code, hb, hl⟩ := key
    exact ⟨l1, T, code, fun a' c' w' h => Begin_any l _ c' a' p w' h hn l1 T code hb, fun a' c' w' h => BeginOf_any l _ c' a' p w' h hn l1 T code hb, hl⟩
  obtain ⟨x, y, code2, HO, HP⟩ : ∃ x y code2, Hid (∀ w', Calls Try.prog 11 #[.int .i64 p, .int .i64 q] w' fun e w2 => e = .returned (.tuple #[mast x y, .int .i64 code2]) ∧ Below w'.heap.size w' w2) ∧ Hid (∀ w', Calls Try.prog 12 #[.int .i64 p, .int .i64 q] w' fun e w2 => e = .returned (.tuple #[mast x y, .int .i64 code2]) ∧ Below w'.heap.size w' w2) := by
    have key : ∃ x y code, OpO p q x y code := by
      cases h : okM p q with
      | true => exact ⟨p, q, 0, .inl ⟨h, rfl, rfl, rfl⟩⟩
      | false => exact ⟨0, 0, 4, .inr ⟨h, rfl, rfl, rfl⟩⟩
    obtain ⟨x, y, code, h⟩ := key
    exact ⟨x, y, code, fun w' => Open_any p q x y code w' h, fun w' => OpenOf_any p q x y code w' h⟩
  have HSI := hide' (sides_any l v w hr hn)
  have HS := hide' (fun w' ca cb aa ab hu hv => sameStation_same T l1 l1.length ca cb aa ab w' hu hv (by have := HL.out; omega))
  have HR0 := hide' hr
  obtain ⟨a, c, rfl⟩ := rowAt_slice hr
  clear hr hn HL
  unfold StaO at HT HU
  obtain ⟨m, hm⟩ : ∃ m, m = l1.length := ⟨_, rfl⟩
  rw [← hm] at HT HU HS
  clear hm
  obtain ⟨tlast, tarmed, tpoint, twant, tleft, tpat⟩ := T
  unfold StM.cells at HT HU HS
  simp only at HT HU HS
  unfold mast at HO HP
  go_enter Try.func4, Try.ntmps4
  go_wp2_with fail
  refine HSI.out.mono ?_
  rintro e w1 ⟨v1, rfl, ho, hb1⟩
  have HB1 := hide' hb1
  have HR1 := hide' (HR0.out.below hb1 (Nat.le_refl _))
  have hr1 := rowAt_of_own ho
  obtain ⟨a0, c0, rfl⟩ := rowAt_slice hr1
  have HT1 := hide' (HT.out a0 c0 w1 hr1)
  clear ho hb1 hr1 HT HSI HR0
  go_wp2_with fail
  refine HT1.out.mono ?_
  rintro e w2 ⟨a1, c1, rfl, hr2, hb2⟩
  have HX2 := hide' hr2
  clear hr2 HT1
  have HB2 : Hid (Below w.heap.size w w2) := HB1.out.trans (hb2.mono HB1.out.size)
  have HR2 := hide' (HR1.out.below hb2 (Nat.le_refl _))
  clear hb2 HB1 HR1
  go_upto_region 2 with fail
  have HC3 := hide' (alloc_new w2 (.cells #[.slice a1 m c1, .int .i64 tlast, .int .i64 tarmed, .int .i64 tpoint, .bool twant, .int .i64 tleft, .int .i64 tpat] 30))
  have HB3 := hide' (HB2.out.alloc HB2.out.size (.cells #[.slice a1 m c1, .int .i64 tlast, .int .i64 tarmed, .int .i64 tpoint, .bool twant, .int .i64 tleft, .int .i64 tpat] 30))
  have HR3 := hide' (HR2.out.below (below_al w2 (.cells #[.slice a1 m c1, .int .i64 tlast, .int .i64 tarmed, .int .i64 tpoint, .bool twant, .int .i64 tleft, .int .i64 tpat] 30)) (Nat.le_refl _))
  have HX3 := hide' (HX2.out.below (below_al w2 (.cells #[.slice a1 m c1, .int .i64 tlast, .int .i64 tarmed, .int .i64 tpoint, .bool twant, .int .i64 tleft, .int .i64 tpat] 30)) (Nat.le_refl _))
  obtain ⟨w3, hw3⟩ : ∃ zz, zz = w2.alloc (.cells #[.slice a1 m c1, .int .i64 tlast, .int .i64 tarmed, .int .i64 tpoint, .bool twant, .int .i64 tleft, .int .i64 tpat] 30) := ⟨_, rfl⟩
  obtain ⟨C, hC⟩ : ∃ zz, zz = w2.heap.size := ⟨_, rfl⟩
  rw [← hw3] at HC3 HB3 HR3 HX3 ⊢
  rw [← hC] at HC3
  rw [show (Value.pointer (some { block := w2.heap.size, off := 0 })) = Value.pointer (some { block := C, off := 0 }) by rw [hC]]
  clear hw3 hC HB2 HR2 HX2
  have HU3 := hide' (HU.out a c w3 HR3.out)
  clear HU
  go_wp2_with fail
  refine HU3.out.mono ?_
  rintro e w4 ⟨a2, c2, rfl, hr4, hb4⟩
  have HY4 := hide' hr4
  clear hr4 HU3
  have HB4 : Hid (Below w.heap.size w w4) := HB3.out.trans (hb4.mono HB3.out.size)
  have HC4 := hide' ((hb4.block C (lt_heap HC3.out)).trans HC3.out)
  have HX4 := hide' (HX3.out.below hb4 (Nat.le_refl _))
  clear hb4 HB3 HC3 HX3
  go_upto_region 3 with fail
  have HD5 := hide' (alloc_new w4 (.cells #[.slice a2 m c2, .int .i64 tlast, .int .i64 tarmed, .int .i64 tpoint, .bool twant, .int .i64 tleft, .int .i64 tpat] 30))
  have HB5 := hide' (HB4.out.alloc HB4.out.size (.cells #[.slice a2 m c2, .int .i64 tlast, .int .i64 tarmed, .int .i64 tpoint, .bool twant, .int .i64 tleft, .int .i64 tpat] 30))
  have HC5 := hide' ((alloc_old w4 (.cells #[.slice a2 m c2, .int .i64 tlast, .int .i64 tarmed, .int .i64 tpoint, .bool twant, .int .i64 tleft, .int .i64 tpat] 30) (lt_heap HC4.out)).trans HC4.out)
  have HX5 := hide' (HX4.out.below (below_al w4 (.cells #[.slice a2 m c2, .int .i64 tlast, .int .i64 tarmed, .int .i64 tpoint, .bool twant, .int .i64 tleft, .int .i64 tpat] 30)) (Nat.le_refl _))
  have HY5 := hide' (HY4.out.below (below_al w4 (.cells #[.slice a2 m c2, .int .i64 tlast, .int .i64 tarmed, .int .i64 tpoint, .bool twant, .int .i64 tleft, .int .i64 tpat] 30)) (Nat.le_refl _))
  obtain ⟨w5, hw5⟩ : ∃ zz, zz = w4.alloc (.cells #[.slice a2 m c2, .int .i64 tlast, .int .i64 tarmed, .int .i64 tpoint, .bool twant, .int .i64 tleft, .int .i64 tpat] 30) := ⟨_, rfl⟩
  obtain ⟨D, hD⟩ : ∃ zz, zz = w4.heap.size := ⟨_, rfl⟩
  rw [← hw5] at HD5 HB5 HC5 HX5 HY5 ⊢
  rw [← hD] at HD5
  rw [show (Value.pointer (some { block := w4.heap.size, off := 0 })) = Value.pointer (some { block := D, off := 0 }) by rw [hD]]
  clear hw5 hD HB4 HC4 HX4 HY4
  go_wp2_with fail
  refine (HO.out w5).mono ?_
  rintro e w6 ⟨rfl, hb6⟩
  have HB6 : Hid (Below w.heap.size w w6) := HB5.out.trans (hb6.mono HB5.out.size)
  have HC6 := hide' ((hb6.block C (lt_heap HC5.out)).trans HC5.out)
  have HD6 := hide' ((hb6.block D (lt_heap HD5.out)).trans HD5.out)
  have HX6 := hide' (HX5.out.below hb6 (Nat.le_refl _))
  have HY6 := hide' (HY5.out.below hb6 (Nat.le_refl _))
  clear hb6 HB5 HC5 HD5 HX5 HY5
  go_upto_region 4 with fail
  have HE7 := hide' (alloc_new w6 (.cells #[.int .i64 0, .int .i64 0, .int .i64 0, .int .i64 0, .bool false, .int .i64 0, .int .i64 x, .int .i64 0, .int .i64 y, .bool false] 35))
  have HB7 := hide' (HB6.out.alloc HB6.out.size (.cells #[.int .i64 0, .int .i64 0, .int .i64 0, .int .i64 0, .bool false, .int .i64 0, .int .i64 x, .int .i64 0, .int .i64 y, .bool false] 35))
  have HC7 := hide' ((alloc_old w6 (.cells #[.int .i64 0, .int .i64 0, .int .i64 0, .int .i64 0, .bool false, .int .i64 0, .int .i64 x, .int .i64 0, .int .i64 y, .bool false] 35) (lt_heap HC6.out)).trans HC6.out)
  have HD7 := hide' ((alloc_old w6 (.cells #[.int .i64 0, .int .i64 0, .int .i64 0, .int .i64 0, .bool false, .int .i64 0, .int .i64 x, .int .i64 0, .int .i64 y, .bool false] 35) (lt_heap HD6.out)).trans HD6.out)
  have HX7 := hide' (HX6.out.below (below_al w6 (.cells #[.int .i64 0, .int .i64 0, .int .i64 0, .int .i64 0, .bool false, .int .i64 0, .int .i64 x, .int .i64 0, .int .i64 y, .bool false] 35)) (Nat.le_refl _))
  have HY7 := hide' (HY6.out.below (below_al w6 (.cells #[.int .i64 0, .int .i64 0, .int .i64 0, .int .i64 0, .bool false, .int .i64 0, .int .i64 x, .int .i64 0, .int .i64 y, .bool false] 35)) (Nat.le_refl _))
  obtain ⟨w7, hw7⟩ : ∃ zz, zz = w6.alloc (.cells #[.int .i64 0, .int .i64 0, .int .i64 0, .int .i64 0, .bool false, .int .i64 0, .int .i64 x, .int .i64 0, .int .i64 y, .bool false] 35) := ⟨_, rfl⟩
  obtain ⟨E, hE⟩ : ∃ zz, zz = w6.heap.size := ⟨_, rfl⟩
  rw [← hw7] at HE7 HB7 HC7 HD7 HX7 HY7 ⊢
  rw [← hE] at HE7
  rw [show (Value.pointer (some { block := w6.heap.size, off := 0 })) = Value.pointer (some { block := E, off := 0 }) by rw [hE]]
  clear hw7 hE HB6 HC6 HD6 HX6 HY6
  go_wp2_with fail
  refine (HP.out w7).mono ?_
  rintro e w8 ⟨rfl, hb8⟩
  have HB8 : Hid (Below w.heap.size w w8) := HB7.out.trans (hb8.mono HB7.out.size)
  have HC8 := hide' ((hb8.block C (lt_heap HC7.out)).trans HC7.out)
  have HD8 := hide' ((hb8.block D (lt_heap HD7.out)).trans HD7.out)
  have HE8 := hide' ((hb8.block E (lt_heap HE7.out)).trans HE7.out)
  have HX8 := hide' (HX7.out.below hb8 (Nat.le_refl _))
  have HY8 := hide' (HY7.out.below hb8 (Nat.le_refl _))
  clear hb8 HB7 HC7 HD7 HE7 HX7 HY7
  go_upto_region 5 with fail
  have HF9 := hide' (alloc_new w8 (.cells #[.int .i64 0, .int .i64 0, .int .i64 0, .int .i64 0, .bool false, .int .i64 0, .int .i64 x, .int .i64 0, .int .i64 y, .bool false] 35))
  have HB9 := hide' (HB8.out.alloc HB8.out.size (.cells #[.int .i64 0, .int .i64 0, .int .i64 0, .int .i64 0, .bool false, .int .i64 0, .int .i64 x, .int .i64 0, .int .i64 y, .bool false] 35))
  have HC9 := hide' ((alloc_old w8 (.cells #[.int .i64 0, .int .i64 0, .int .i64 0, .int .i64 0, .bool false, .int .i64 0, .int .i64 x, .int .i64 0, .int .i64 y, .bool false] 35) (lt_heap HC8.out)).trans HC8.out)
  have HD9 := hide' ((alloc_old w8 (.cells #[.int .i64 0, .int .i64 0, .int .i64 0, .int .i64 0, .bool false, .int .i64 0, .int .i64 x, .int .i64 0, .int .i64 y, .bool false] 35) (lt_heap HD8.out)).trans HD8.out)
  have HE9 := hide' ((alloc_old w8 (.cells #[.int .i64 0, .int .i64 0, .int .i64 0, .int .i64 0, .bool false, .int .i64 0, .int .i64 x, .int .i64 0, .int .i64 y, .bool false] 35) (lt_heap HE8.out)).trans HE8.out)
  have HX9 := hide' (HX8.out.below (below_al w8 (.cells #[.int .i64 0, .int .i64 0, .int .i64 0, .int .i64 0, .bool false, .int .i64 0, .int .i64 x, .int .i64 0, .int .i64 y, .bool false] 35)) (Nat.le_refl _))
  have HY9 := hide' (HY8.out.below (below_al w8 (.cells #[.int .i64 0, .int .i64 0, .int .i64 0, .int .i64 0, .bool false, .int .i64 0, .int .i64 x, .int .i64 0, .int .i64 y, .bool false] 35)) (Nat.le_refl _))
  obtain ⟨w9, hw9⟩ : ∃ zz, zz = w8.alloc (.cells #[.int .i64 0, .int .i64 0, .int .i64 0, .int .i64 0, .bool false, .int .i64 0, .int .i64 x, .int .i64 0, .int .i64 y, .bool false] 35) := ⟨_, rfl⟩
  obtain ⟨F, hF⟩ : ∃ zz, zz = w8.heap.size := ⟨_, rfl⟩
  rw [← hw9] at HF9 HB9 HC9 HD9 HE9 HX9 HY9 ⊢
  rw [← hF] at HF9
  rw [show (Value.pointer (some { block := w8.heap.size, off := 0 })) = Value.pointer (some { block := F, off := 0 }) by rw [hF]]
  clear hw9 hF HB8 HC8 HD8 HE8 HX8 HY8
  have p0 : w9.cell? ⟨C, 0, none⟩ = some (.slice a1 m c1) := (cells_at HC9.out 0).trans rfl
  have p1 : w9.cell? ⟨C, 1, none⟩ = some (.int .i64 tlast) := (cells_at HC9.out 1).trans rfl
  have p2 : w9.cell? ⟨C, 2, none⟩ = some (.int .i64 tarmed) := (cells_at HC9.out 2).trans rfl
  have p3 : w9.cell? ⟨C, 3, none⟩ = some (.int .i64 tpoint) := (cells_at HC9.out 3).trans rfl
  have p4 : w9.cell? ⟨C, 4, none⟩ = some (.bool twant) := (cells_at HC9.out 4).trans rfl
  have p5 : w9.cell? ⟨C, 5, none⟩ = some (.int .i64 tleft) := (cells_at HC9.out 5).trans rfl
  have p6 : w9.cell? ⟨C, 6, none⟩ = some (.int .i64 tpat) := (cells_at HC9.out 6).trans rfl
  have q0 : w9.cell? ⟨D, 0, none⟩ = some (.slice a2 m c2) := (cells_at HD9.out 0).trans rfl
  have q1 : w9.cell? ⟨D, 1, none⟩ = some (.int .i64 tlast) := (cells_at HD9.out 1).trans rfl
  have q2 : w9.cell? ⟨D, 2, none⟩ = some (.int .i64 tarmed) := (cells_at HD9.out 2).trans rfl
  have q3 : w9.cell? ⟨D, 3, none⟩ = some (.int .i64 tpoint) := (cells_at HD9.out 3).trans rfl
  have q4 : w9.cell? ⟨D, 4, none⟩ = some (.bool twant) := (cells_at HD9.out 4).trans rfl
  have q5 : w9.cell? ⟨D, 5, none⟩ = some (.int .i64 tleft) := (cells_at HD9.out 5).trans rfl
  have q6 : w9.cell? ⟨D, 6, none⟩ = some (.int .i64 tpat) := (cells_at HD9.out 6).trans rfl
  have HS9 := hide' (HS.out w9 _ _ _ _ HX9.out HY9.out)
  clear HS HX9 HY9 HO HP
  go_wp2_with fail
  refine HS9.out.mono ?_
  rintro e w10 ⟨rfl, hb10⟩
  clear p0 p1 p2 p3 p4 p5 p6 q0 q1 q2 q3 q4 q5 q6 HC9 HD9 HS9
  have HB10 : Hid (Below w.heap.size w w10) := HB9.out.trans (hb10.mono HB9.out.size)
  have HE10 := hide' ((hb10.block E (lt_heap HE9.out)).trans HE9.out)
  have HF10 := hide' ((hb10.block F (lt_heap HF9.out)).trans HF9.out)
  clear hb10 HB9 HE9 HF9
  have p0 : w10.cell? ⟨E, 0, none⟩ = some (.int .i64 0) := (cells_at HE10.out 0).trans rfl
  have p1 : w10.cell? ⟨E, 1, none⟩ = some (.int .i64 0) := (cells_at HE10.out 1).trans rfl
  have p2 : w10.cell? ⟨E, 2, none⟩ = some (.int .i64 0) := (cells_at HE10.out 2).trans rfl
  have p3 : w10.cell? ⟨E, 3, none⟩ = some (.int .i64 0) := (cells_at HE10.out 3).trans rfl
  have p4 : w10.cell? ⟨E, 4, none⟩ = some (.bool false) := (cells_at HE10.out 4).trans rfl
  have p5 : w10.cell? ⟨E, 5, none⟩ = some (.int .i64 0) := (cells_at HE10.out 5).trans rfl
  have p6 : w10.cell? ⟨E, 6, none⟩ = some (.int .i64 x) := (cells_at HE10.out 6).trans rfl
  have p7 : w10.cell? ⟨E, 7, none⟩ = some (.int .i64 0) := (cells_at HE10.out 7).trans rfl
  have p8 : w10.cell? ⟨E, 8, none⟩ = some (.int .i64 y) := (cells_at HE10.out 8).trans rfl
  have p9 : w10.cell? ⟨E, 9, none⟩ = some (.bool false) := (cells_at HE10.out 9).trans rfl
  have q0 : w10.cell? ⟨F, 0, none⟩ = some (.int .i64 0) := (cells_at HF10.out 0).trans rfl
  have q1 : w10.cell? ⟨F, 1, none⟩ = some (.int .i64 0) := (cells_at HF10.out 1).trans rfl
  have q2 : w10.cell? ⟨F, 2, none⟩ = some (.int .i64 0) := (cells_at HF10.out 2).trans rfl
  have q3 : w10.cell? ⟨F, 3, none⟩ = some (.int .i64 0) := (cells_at HF10.out 3).trans rfl
  have q4 : w10.cell? ⟨F, 4, none⟩ = some (.bool false) := (cells_at HF10.out 4).trans rfl
  have q5 : w10.cell? ⟨F, 5, none⟩ = some (.int .i64 0) := (cells_at HF10.out 5).trans rfl
  have q6 : w10.cell? ⟨F, 6, none⟩ = some (.int .i64 x) := (cells_at HF10.out 6).trans rfl
  have q7 : w10.cell? ⟨F, 7, none⟩ = some (.int .i64 0) := (cells_at HF10.out 7).trans rfl
  have q8 : w10.cell? ⟨F, 8, none⟩ = some (.int .i64 y) := (cells_at HF10.out 8).trans rfl
  have q9 : w10.cell? ⟨F, 9, none⟩ = some (.bool false) := (cells_at HF10.out 9).trans rfl
  clear HE10 HF10
  go_wp2
  go_ret
  exact ⟨rfl, HB10.out⟩
end Go.Proofs.Ytjhmendiefojoal
