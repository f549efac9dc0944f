/- A yard with memory of its own, in the document's answer. -/
import Derived.Test.YtcnoipcpifackahZ5
import Derived.Test.YtcnoipcpifackahYa
namespace Go.Proofs.Ytcnoipcpifackah
open Go.RowKit Go.Shelf

/-- The boxes of YardOf. -/
structure OB (w wr : World) (A Y : Nat) (yv : Array Value) : Prop where
  hA : wr.heap[A]? = some (.cells #[.int .i64 0, .slice none 0 0, .slice none 0 0, .slice none 0 0] 25 (0, 0))
  hY : wr.heap[Y]? = some (.cells yv 25 (0, 0))
  nAY : A ≠ Y
  sA : w.heap.size ≤ A
  sY : w.heap.size ≤ Y
  bel : Below w.heap.size w wr
theorem OB.more {w wr wr' : World} {A Y : Nat} {yv : Array Value} (h : OB w wr A Y yv) (hb : Below wr.heap.size wr wr') : OB w wr' A Y yv :=
  ⟨(hb.block A (Array.getElem?_eq_some_iff.1 h.hA).1).trans h.hA, (hb.block Y (Array.getElem?_eq_some_iff.1 h.hY).1).trans h.hY, h.nAY, h.sA, h.sY, h.bel.trans (hb.mono h.bel.size)⟩
theorem OB.set {w wr : World} {A Y j : Nat} {yv : Array Value} {x : Value} (h : OB w wr A Y yv) : OB w (wr.setCell ⟨Y, j, none⟩ x) A Y (yv.setIfInBounds j x) :=
  ⟨(Below.heap_setCell _ _ _ A h.nAY).trans h.hA, set_any h.hY j x, h.nAY, h.sA, h.sY, h.bel.setCell (p := ⟨Y, j, none⟩) h.sY x⟩
set_option maxRecDepth 100000 in
set_option maxHeartbeats 2000000 in
theorem YardOf_own (y : YardM) (af ad as' : Option Addr) (cf cd cs : Nat) (w : World) (hy : YardAt w af ad as' cf cd cs y) (hf : y.fed.length ≤ 2000000) (hd : y.drawn.length ≤ 2000000) (hs : y.devs.length ≤ 2000000) :
    Calls Try.prog 8 #[.agg #[.int .i64 y.points, .slice af y.fed.length cf, .slice ad y.drawn.length cd, .slice as' y.devs.length cs]] w fun e w' => ∃ af2 ad2 as2 cf2 cd2 cs2, e = .returned (.agg #[.int .i64 y.points, .slice af2 y.fed.length cf2, .slice ad2 y.drawn.length cd2, .slice as2 y.devs.length cs2]) ∧ (w'.ownsRow w.heap.size 3 1 (.slice af2 y.fed.length cf2) y.fed.length (ints y.fed) ∧ w'.ownsRow w.heap.size 3 1 (.slice ad2 y.drawn.length cd2) y.drawn.length (ints y.drawn) ∧ w'.ownsRow w.heap.size 45 4 (.slice as2 y.devs.length cs2) y.devs.length (y.devs.flatMap DevM.cells)) ∧ Below w.heap.size w w' := by
  obtain ⟨i3, hi3, h30, h31, h32⟩ := info_parts Try.info3
  obtain ⟨i45, hi45, h450, h451, h452⟩ := info_parts Try.info45
  have HY := hide' hy
  obtain ⟨lf, hlf⟩ : ∃ l, l = y.fed.length := ⟨_, rfl⟩
  obtain ⟨ld, hld⟩ : ∃ l, l = y.drawn.length := ⟨_, rfl⟩
  obtain ⟨ls, hls⟩ : ∃ l, l = y.devs.length := ⟨_, rfl⟩
  obtain ⟨pt, hpt⟩ : ∃ p, p = y.points := ⟨_, rfl⟩
  have HF : Hid (RowAt w (.slice af lf cf) lf 1 (ints y.fed)) := by have h5 := hy.f; rw [← hlf] at h5; exact h5
  have HD : Hid (RowAt w (.slice ad ld cd) ld 1 (ints y.drawn)) := by have h5 := hy.d; rw [← hld] at h5; exact h5
  have HS : Hid (RowAt w (.slice as' ls cs) ls 4 (y.devs.flatMap DevM.cells)) := by have h5 := hy.s; rw [← hls] at h5; exact h5
  have HLF := hide' hlf
  have HLD := hide' hld
  have HLS := hide' hls
  rw [← hlf, ← hld, ← hls, ← hpt]
  rw [← hlf] at hf
  rw [← hld] at hd
  rw [← hls] at hs
  clear hy hlf hld hls hpt
  go_enter Try.func8, Try.ntmps8
  go_upto_region 1 with fail
  have HU0 : Hid (OB w ((w.alloc (.cells #[.int .i64 pt, .slice af lf cf, .slice ad ld cd, .slice as' ls cs] 25)).alloc (.cells #[.int .i64 0, .slice none 0 0, .slice none 0 0, .slice none 0 0] 25)) (w.heap.size + 1) w.heap.size #[.int .i64 pt, .slice af lf cf, .slice ad ld cd, .slice as' ls cs]) := by
    have hA := alloc_new (w.alloc (.cells #[.int .i64 pt, .slice af lf cf, .slice ad ld cd, .slice as' ls cs] 25)) (.cells #[.int .i64 0, .slice none 0 0, .slice none 0 0, .slice none 0 0] 25)
    rw [World.size_alloc] at hA
    exact ⟨hA, (alloc_old _ _ (by simp)).trans (alloc_new _ _), by omega, by omega, by omega, (below_al w _).alloc (by simp) _⟩
  obtain ⟨w1, hw1⟩ : ∃ x, x = (w.alloc (.cells #[.int .i64 pt, .slice af lf cf, .slice ad ld cd, .slice as' ls cs] 25)).alloc (.cells #[.int .i64 0, .slice none 0 0, .slice none 0 0, .slice none 0 0] 25) := ⟨_, rfl⟩
  rw [← hw1] at HU0 ⊢
  obtain ⟨A, hA⟩ : ∃ S, S = w.heap.size + 1 := ⟨_, rfl⟩
  rw [← hA] at HU0 ⊢
  obtain ⟨Y, hYY⟩ : ∃ S, S = w.heap.size := ⟨_, rfl⟩
  have HU1 : Hid (OB w w1 A Y #[.int .i64 pt, .slice af lf cf, .slice ad ld cd, .slice as' ls cs]) := by rw [hYY]; exact HU0
  rw [show (Value.pointer (some { block := w.heap.size, off := 0 })) = Value.pointer (some { block := Y, off := 0 }) by rw [hYY]]
  clear hw1 hA hYY HU0
  have c1 : w1.cell? ⟨Y, 1, none⟩ = some (.slice af lf cf) := (cells_at HU1.out.hY 1).trans rfl
  have HR1 := hide' (HF.out.below HU1.out.bel (Nat.le_refl _))
  have hz1 : w.heap.size ≤ w1.heap.size := HU1.out.bel.size
  go_wp2_with (at_builtin; refine wpList_append_any _ rfl _ _ 22 rfl w.heap.size 3 i3 _ 1 8 Try.underlying22 hi3 h30 h31 h32 rfl (by decide) _ _ _ rfl (World.ownsRow_nil _ _ _ _) _ _ _ rfl HR1.out (ints_one y.fed) (by unfold maxLen; omega) (by omega) hz1 ?_; intro v1 x1 hown1 hgrow1; refine Still.go ?_)
  unfold Still
  have hg1 : w1.grownBy x1 none := hgrow1
  have ho1 : x1.ownsRow w.heap.size 3 1 v1 lf (ints y.fed) := by have h := hown1; simpa using h
  obtain ⟨a1, d1, rfl⟩ := own_slice ho1
  have hb1 : Below w1.heap.size w1 x1 := (Below.refl _ w1).grown hg1 (Nat.le_refl _) (fun k e => by cases e)
  have HX1 := hide' (HU1.out.more hb1)
  have g1 : x1.cell? ⟨Y, 1, none⟩ = some (.slice af lf cf) := (cells_at HX1.out.hY 1).trans rfl
  have k1 : x1.frozen? ⟨Y, 1, none⟩ = false := frozen_no HX1.out.hY _
  have HO1 := hide' ho1
  clear hown1 hgrow1 hg1 ho1 hb1 HU1 HR1 hz1 c1
  go_upto_region 2 with fail
  have HU2 : Hid (OB w (x1.setCell ⟨Y, 1, none⟩ (.slice a1 lf d1)) A Y #[.int .i64 pt, .slice a1 lf d1, .slice ad ld cd, .slice as' ls cs]) := HX1.out.set (j := 1)
  have HO2 : Hid ((x1.setCell ⟨Y, 1, none⟩ (.slice a1 lf d1)).ownsRow w.heap.size 3 1 (.slice a1 lf d1) lf (ints y.fed)) := own_keep HO1.out (keep_set HX1.out.hY 1 _) (by decide)
  obtain ⟨w2, hw2⟩ : ∃ x, x = x1.setCell ⟨Y, 1, none⟩ (.slice a1 lf d1) := ⟨_, rfl⟩
  rw [← hw2] at HU2 HO2 ⊢
  clear hw2 HO1 HX1 g1 k1
  have c2 : w2.cell? ⟨Y, 2, none⟩ = some (.slice ad ld cd) := (cells_at HU2.out.hY 2).trans rfl
  have HR2 := hide' (HD.out.below HU2.out.bel (Nat.le_refl _))
  have hz2 : w.heap.size ≤ w2.heap.size := HU2.out.bel.size
  go_wp2_with (at_builtin; refine wpList_append_any _ rfl _ _ 22 rfl w.heap.size 3 i3 _ 1 8 Try.underlying22 hi3 h30 h31 h32 rfl (by decide) _ _ _ rfl (World.ownsRow_nil _ _ _ _) _ _ _ rfl HR2.out (ints_one y.drawn) (by unfold maxLen; omega) (by omega) hz2 ?_; intro v2 x2 hown2 hgrow2; refine Still.go ?_)
  unfold Still
  have hg2 : w2.grownBy x2 none := hgrow2
  have ho2 : x2.ownsRow w.heap.size 3 1 v2 ld (ints y.drawn) := by have h := hown2; simpa using h
  obtain ⟨a2, d2, rfl⟩ := own_slice ho2
  have hb2 : Below w2.heap.size w2 x2 := (Below.refl _ w2).grown hg2 (Nat.le_refl _) (fun k e => by cases e)
  have HX2 := hide' (HU2.out.more hb2)
  have g2 : x2.cell? ⟨Y, 2, none⟩ = some (.slice ad ld cd) := (cells_at HX2.out.hY 2).trans rfl
  have k2 : x2.frozen? ⟨Y, 2, none⟩ = false := frozen_no HX2.out.hY _
  have HP2 := hide' ho2
  have HO2x := hide' (own_below HO2.out hb2 (Nat.le_refl _))
  clear hown2 hgrow2 hg2 ho2 hb2 HU2 HR2 hz2 c2 HO2
  go_upto_region 3 with fail
  have HU3 : Hid (OB w (x2.setCell ⟨Y, 2, none⟩ (.slice a2 ld d2)) A Y #[.int .i64 pt, .slice a1 lf d1, .slice a2 ld d2, .slice as' ls cs]) := HX2.out.set (j := 2)
  have HO3 : Hid ((x2.setCell ⟨Y, 2, none⟩ (.slice a2 ld d2)).ownsRow w.heap.size 3 1 (.slice a1 lf d1) lf (ints y.fed)) := own_keep HO2x.out (keep_set HX2.out.hY 2 _) (by decide)
  have HP3 : Hid ((x2.setCell ⟨Y, 2, none⟩ (.slice a2 ld d2)).ownsRow w.heap.size 3 1 (.slice a2 ld d2) ld (ints y.drawn)) := own_keep HP2.out (keep_set HX2.out.hY 2 _) (by decide)
  obtain ⟨w3, hw3⟩ : ∃ x, x = x2.setCell ⟨Y, 2, none⟩ (.slice a2 ld d2) := ⟨_, rfl⟩
  rw [← hw3] at HU3 HO3 HP3 ⊢
  clear hw3 HP2 HO2x HX2 g2 k2
  have c3 : w3.cell? ⟨Y, 3, none⟩ = some (.slice as' ls cs) := (cells_at HU3.out.hY 3).trans rfl
  have HR3 := hide' (HS.out.below HU3.out.bel (Nat.le_refl _))
  have hz3 : w.heap.size ≤ w3.heap.size := HU3.out.bel.size
  go_wp2_with (at_builtin; refine wpList_append_any _ rfl _ _ 23 rfl w.heap.size 45 i45 _ 4 32 Try.underlying23 hi45 h450 h451 h452 rfl (by decide) _ _ _ rfl (World.ownsRow_nil _ _ _ _) _ _ _ rfl HR3.out (devs_one y.devs) (by unfold maxLen; omega) (by omega) hz3 ?_; intro v3 x3 hown3 hgrow3; refine Still.go ?_)
  unfold Still
  have hg3 : w3.grownBy x3 none := hgrow3
  have ho3 : x3.ownsRow w.heap.size 45 4 v3 ls (y.devs.flatMap DevM.cells) := by have h := hown3; simpa using h
  obtain ⟨a3, d3, rfl⟩ := own_slice ho3
  have hb3 : Below w3.heap.size w3 x3 := (Below.refl _ w3).grown hg3 (Nat.le_refl _) (fun k e => by cases e)
  have HX3 := hide' (HU3.out.more hb3)
  have g3 : x3.cell? ⟨Y, 3, none⟩ = some (.slice as' ls cs) := (cells_at HX3.out.hY 3).trans rfl
  have k3 : x3.frozen? ⟨Y, 3, none⟩ = false := frozen_no HX3.out.hY _
  have HS3 := hide' ho3
  have HO3x := hide' (own_below HO3.out hb3 (Nat.le_refl _))
  have HP3x := hide' (own_below HP3.out hb3 (Nat.le_refl _))
  clear hown3 hgrow3 hg3 ho3 hb3 HU3 HR3 hz3 c3 HO3 HP3
  go_upto_region 4 with fail
  have HU4 : Hid (OB w (x3.setCell ⟨Y, 3, none⟩ (.slice a3 ls d3)) A Y #[.int .i64 pt, .slice a1 lf d1, .slice a2 ld d2, .slice a3 ls d3]) := HX3.out.set (j := 3)
  have HO4 : Hid ((x3.setCell ⟨Y, 3, none⟩ (.slice a3 ls d3)).ownsRow w.heap.size 3 1 (.slice a1 lf d1) lf (ints y.fed)) := own_keep HO3x.out (keep_set HX3.out.hY 3 _) (by decide)
  have HP4 : Hid ((x3.setCell ⟨Y, 3, none⟩ (.slice a3 ls d3)).ownsRow w.heap.size 3 1 (.slice a2 ld d2) ld (ints y.drawn)) := own_keep HP3x.out (keep_set HX3.out.hY 3 _) (by decide)
  have HS4 : Hid ((x3.setCell ⟨Y, 3, none⟩ (.slice a3 ls d3)).ownsRow w.heap.size 45 4 (.slice a3 ls d3) ls (y.devs.flatMap DevM.cells)) := own_keep HS3.out (keep_set HX3.out.hY 3 _) (by decide)
  obtain ⟨w4, hw4⟩ : ∃ x, x = x3.setCell ⟨Y, 3, none⟩ (.slice a3 ls d3) := ⟨_, rfl⟩
  rw [← hw4] at HU4 HO4 HP4 HS4 ⊢
  clear hw4 HS3 HO3x HP3x HX3 g3 k3
  have s0 : w4.cell? ⟨Y, 0, none⟩ = some (.int .i64 pt) := (cells_at HU4.out.hY 0).trans rfl
  have b0 : w4.cell? ⟨A, 0, none⟩ = some (.int .i64 0) := (cells_at HU4.out.hA 0).trans rfl
  have e0 : w4.frozen? ⟨A, 0, none⟩ = false := frozen_no HU4.out.hA _
  have s1 : w4.cell? ⟨Y, 1, none⟩ = some (.slice a1 lf d1) := (cells_at HU4.out.hY 1).trans rfl
  have b1 : w4.cell? ⟨A, 1, none⟩ = some (.slice none 0 0) := (cells_at HU4.out.hA 1).trans rfl
  have e1 : w4.frozen? ⟨A, 1, none⟩ = false := frozen_no HU4.out.hA _
  have s2 : w4.cell? ⟨Y, 2, none⟩ = some (.slice a2 ld d2) := (cells_at HU4.out.hY 2).trans rfl
  have b2 : w4.cell? ⟨A, 2, none⟩ = some (.slice none 0 0) := (cells_at HU4.out.hA 2).trans rfl
  have e2 : w4.frozen? ⟨A, 2, none⟩ = false := frozen_no HU4.out.hA _
  have s3 : w4.cell? ⟨Y, 3, none⟩ = some (.slice a3 ls d3) := (cells_at HU4.out.hY 3).trans rfl
  have b3 : w4.cell? ⟨A, 3, none⟩ = some (.slice none 0 0) := (cells_at HU4.out.hA 3).trans rfl
  have e3 : w4.frozen? ⟨A, 3, none⟩ = false := frozen_no HU4.out.hA _
  have hs9 : ∀ j, j ≠ A → ((((w4.setCell ⟨A, 0, none⟩ (.int .i64 pt)).setCell ⟨A, 1, none⟩ (.slice a1 lf d1)).setCell ⟨A, 2, none⟩ (.slice a2 ld d2)).setCell ⟨A, 3, none⟩ (.slice a3 ls d3)).heap[j]? = w4.heap[j]? := fun j hj => by
    rw [Below.heap_setCell _ _ _ j hj, Below.heap_setCell _ _ _ j hj, Below.heap_setCell _ _ _ j hj, Below.heap_setCell _ _ _ j hj]
  have HAA : Hid (((((w4.setCell ⟨A, 0, none⟩ (.int .i64 pt)).setCell ⟨A, 1, none⟩ (.slice a1 lf d1)).setCell ⟨A, 2, none⟩ (.slice a2 ld d2)).setCell ⟨A, 3, none⟩ (.slice a3 ls d3)).heap[A]? = some (.cells #[.int .i64 pt, .slice a1 lf d1, .slice a2 ld d2, .slice a3 ls d3] 25 (0, 0))) := (set_any (set_any (set_any (set_any HU4.out.hA 0 _) 1 _) 2 _) 3 _).trans (by simp only [List.setIfInBounds_toArray, List.set_cons_zero, List.set_cons_succ])
  have HBF : Hid (Below w.heap.size w ((((w4.setCell ⟨A, 0, none⟩ (.int .i64 pt)).setCell ⟨A, 1, none⟩ (.slice a1 lf d1)).setCell ⟨A, 2, none⟩ (.slice a2 ld d2)).setCell ⟨A, 3, none⟩ (.slice a3 ls d3))) := ((((HU4.out.bel.setCell (p := ⟨A, 0, none⟩) HU4.out.sA _).setCell (p := ⟨A, 1, none⟩) HU4.out.sA _).setCell (p := ⟨A, 2, none⟩) HU4.out.sA _).setCell (p := ⟨A, 3, none⟩) HU4.out.sA _)
  have hke : KeepE 25 w4 ((((w4.setCell ⟨A, 0, none⟩ (.int .i64 pt)).setCell ⟨A, 1, none⟩ (.slice a1 lf d1)).setCell ⟨A, 2, none⟩ (.slice a2 ld d2)).setCell ⟨A, 3, none⟩ (.slice a3 ls d3)) := fun j cur e1 fz hj he => hs9 j (fun e => by subst e; rw [HU4.out.hA] at hj; cases hj; exact he rfl)
  have HOF := hide' (own_keep HO4.out hke (by decide))
  have HPF := hide' (own_keep HP4.out hke (by decide))
  have HSF := hide' (own_keep HS4.out hke (by decide))
  clear hs9 hke HO4 HP4 HS4 HU4
  go_wp2
  refine bodyPost_ret (results_cell_row rfl _ _ A 25 _ (0, 0) _ rfl HAA.out Try.underlying25 rfl (by kernel_rfl)) rfl ?_
  refine ⟨a1, a2, a3, d1, d2, d3, rfl, ⟨?_, ?_, ?_⟩, HBF.out⟩
  · exact HOF.out
  · exact HPF.out
  · exact HSF.out
theorem YardOf_any (y : YardM) (af ad as' : Option Addr) (cf cd cs : Nat) (w : World) (hy : YardAt w af ad as' cf cd cs y) (hf : y.fed.length ≤ 2000000) (hd : y.drawn.length ≤ 2000000) (hs : y.devs.length ≤ 2000000) :
    Calls Try.prog 8 #[.agg #[.int .i64 y.points, .slice af y.fed.length cf, .slice ad y.drawn.length cd, .slice as' y.devs.length cs]] w fun e w' => ∃ af2 ad2 as2 cf2 cd2 cs2, e = .returned (.agg #[.int .i64 y.points, .slice af2 y.fed.length cf2, .slice ad2 y.drawn.length cd2, .slice as2 y.devs.length cs2]) ∧ YardAt w' af2 ad2 as2 cf2 cd2 cs2 y ∧ Below w.heap.size w w' := by
  refine (YardOf_own y af ad as' cf cd cs w hy hf hd hs).mono ?_
  rintro e w' ⟨a, b, c, d, e1, f, rfl, ⟨h1, h2, h3⟩, h4⟩
  exact ⟨a, b, c, d, e1, f, rfl, ⟨rowAt_of_own h1, rowAt_of_own h2, rowAt_of_own h3⟩, h4⟩
end Go.Proofs.Ytcnoipcpifackah
