/- A move, in the document's answer: whole. -/
import Derived.Test.YtcnoipcpifackahZc
import Derived.Test.YtcnoipcpifackahZ2
namespace Go.Proofs.Ytcnoipcpifackah
open Go.RowKit Go.Shelf

/-- The boxes of a yard and of an answer. -/
structure YW (w wr : World) (Y A : Nat) (yc : Array Value) : Prop where
  hY : wr.heap[Y]? = some (.cells yc 25 (0, 0))
  hA : wr.heap[A]? = some (.cells zero4 25 (0, 0))
  sA : w.heap.size ≤ A
  bel : Below w.heap.size w wr
theorem YW.more {w wr wr' : World} {Y A : Nat} {yc : Array Value} (h : YW w wr Y A yc) (hb : Below wr.heap.size wr wr') : YW w wr' Y A yc :=
  ⟨(hb.block Y (Array.getElem?_eq_some_iff.1 h.hY).1).trans h.hY, (hb.block A (Array.getElem?_eq_some_iff.1 h.hA).1).trans h.hA, h.sA, h.bel.trans (hb.mono h.bel.size)⟩
set_option maxRecDepth 100000 in
set_option maxHeartbeats 2000000 in
theorem YardMoved_any (y : YardM) (k : Int) (af ad as' : Option Addr) (cf cd cs : Nat) (w : World) (hy : YardAt w af ad as' cf cd cs y) (hf : y.fed.length ≤ 9000000000000000000) (hd : y.drawn.length ≤ 9000000000000000000) (hs : y.devs.length ≤ 9000000000000000000) :
    Calls Try.prog 9 #[.agg #[.int .i64 y.points, .slice af y.fed.length cf, .slice ad y.drawn.length cd, .slice as' y.devs.length cs], .int .i64 k] w (MovedO y k w) := by
  have HWO : Hid (∀ e w', (((mayYB y && soundB y) = false ∧ e = .returned (.tuple #[.agg zero4, .int .i64 14])) ∨ ((mayYB y && soundB y) = true ∧ (k < 0 ∨ (y.devs.length : Int) ≤ k) ∧ e = .returned (.tuple #[.agg zero4, .int .i64 4])) ∨ ((mayYB y && soundB y) = true ∧ ∃ j : Nat, k = (j : Int) ∧ j < y.devs.length ∧ ((moveErr y j ≠ 0 ∧ e = .returned (.tuple #[.agg zero4, .int .i64 (moveErr y j)])) ∨ (moveErr y j = 0 ∧ ∃ af ad as' cf cd cs, e = .returned (.tuple #[.agg #[.int .i64 y.points, .slice af y.fed.length cf, .slice ad y.drawn.length cd, .slice as' y.devs.length cs], .int .i64 0]) ∧ YardAt w' af ad as' cf cd cs (y.turn j))))) ∧ Below w.heap.size w w' → MovedO y k w e w') := fun _ _ h => h
  obtain ⟨R, hR⟩ : ∃ R, R = MovedO y k w := ⟨_, rfl⟩
  rw [← hR] at HWO ⊢
  have HI := hide' (mayYB_iff (y := y))
  have HMY : Hid (∀ w', Below w.heap.size w w' → Calls Try.prog 22 #[.agg #[.int .i64 y.points, .slice af y.fed.length cf, .slice ad y.drawn.length cd, .slice as' y.devs.length cs]] w' fun e w2 => e = .returned (.bool (mayYB y)) ∧ Below w'.heap.size w' w2) := fun w' hb => YardMay_any y af ad as' cf cd cs w' (hy.below hb (Nat.le_refl _)) hf hd hs
  have HSO : Hid (MayY y → ∀ w', Below w.heap.size w w' → Calls Try.prog 23 #[.agg #[.int .i64 y.points, .slice af y.fed.length cf, .slice ad y.drawn.length cd, .slice as' y.devs.length cs]] w' fun e w2 => e = .returned (.bool (soundB y)) ∧ Below w'.heap.size w' w2) := fun hm w' hb => Sound_any y hm af ad as' cf cd cs w' (hy.below hb (Nat.le_refl _))
  have HMV : Hid (MayY y → ∀ j : Nat, j < y.devs.length → ∀ w', Below w.heap.size w w' → Calls Try.prog 24 #[.agg #[.int .i64 y.points, .slice af y.fed.length cf, .slice ad y.drawn.length cd, .slice as' y.devs.length cs], .int .i64 j] w' fun e w2 => MoveOfO y j w' e w2) := fun hm j hj w' hb => moveOf_any y hm j hj af ad as' cf cd cs w' (hy.below hb (Nat.le_refl _))
  obtain ⟨lf, hlf⟩ : ∃ l, l = y.fed.length := ⟨_, rfl⟩
  obtain ⟨ld, hld⟩ : ∃ l, l = y.drawn.length := ⟨_, rfl⟩
  obtain ⟨ls, hls⟩ : ∃ l, l = y.devs.length := ⟨_, rfl⟩
  obtain ⟨pt, hpt⟩ : ∃ l, l = y.points := ⟨_, rfl⟩
  obtain ⟨mb, hmb⟩ : ∃ l, l = mayYB y := ⟨_, rfl⟩
  obtain ⟨sb, hsb⟩ : ∃ l, l = soundB y := ⟨_, rfl⟩
  have HMO : Hid (∀ (j : Nat) (wa : World) (e : Ending) (wb : World), MoveOfO y j wa e wb → ((moveErr y j ≠ 0 ∧ e = .returned (.tuple #[.agg zero4, .int .i64 (moveErr y j)])) ∨ (moveErr y j = 0 ∧ ∃ af ad as' cf cd cs, e = .returned (.tuple #[.agg #[.int .i64 pt, .slice af lf cf, .slice ad ld cd, .slice as' ls cs], .int .i64 0]) ∧ ∀ w2, KeepX wb w2 → YardAt w2 af ad as' cf cd cs (y.turn j))) ∧ Below wa.heap.size wa wb) := fun j wa e wb h => by rw [hlf, hld, hls, hpt]; exact h
  rw [← hlf, ← hld, ← hls, ← hpt] at HMY HSO HMV HWO ⊢
  rw [← hmb] at HMY HI
  rw [← hsb] at HSO
  rw [← hmb, ← hsb] at HWO
  rw [← hls] at hs
  clear hlf hld hls hpt hmb hsb hR hy hf hd
  go_enter Try.func9, Try.ntmps9
  go_upto_region 1 with fail
  have HQ1 := hide' (alloc_new w (.cells #[.int .i64 pt, .slice af lf cf, .slice ad ld cd, .slice as' ls cs] 25))
  have HQ2 := hide' (alloc_new (w.alloc (.cells #[.int .i64 pt, .slice af lf cf, .slice ad ld cd, .slice as' ls cs] 25)) (.cells zero4 25))
  have HQ3 := hide' ((alloc_old (w.alloc (.cells #[.int .i64 pt, .slice af lf cf, .slice ad ld cd, .slice as' ls cs] 25)) (.cells zero4 25) (Array.getElem?_eq_some_iff.1 HQ1.out).1).trans HQ1.out)
  have HB1 : Hid (Below w.heap.size w ((w.alloc (.cells #[.int .i64 pt, .slice af lf cf, .slice ad ld cd, .slice as' ls cs] 25)).alloc (.cells zero4 25))) := (below_al w (.cells #[.int .i64 pt, .slice af lf cf, .slice ad ld cd, .slice as' ls cs] 25)).alloc (below_al w (.cells #[.int .i64 pt, .slice af lf cf, .slice ad ld cd, .slice as' ls cs] 25)).size _
  rw [show (w.alloc (.cells #[.int .i64 pt, .slice af lf cf, .slice ad ld cd, .slice as' ls cs] 25)).heap.size = w.heap.size + 1 from World.size_alloc ..] at HQ2
  rw [show (#[Value.int IntKind.i64 0, Value.slice none 0 0, Value.slice none 0 0, Value.slice none 0 0] : Array Value) = zero4 from rfl]
  obtain ⟨w1, hw1⟩ : ∃ x, x = (w.alloc (.cells #[.int .i64 pt, .slice af lf cf, .slice ad ld cd, .slice as' ls cs] 25)).alloc (.cells zero4 25) := ⟨_, rfl⟩
  rw [← hw1] at HQ2 HQ3 HB1 ⊢
  obtain ⟨Y, hU⟩ : ∃ U, U = w.heap.size := ⟨_, rfl⟩
  obtain ⟨A, hV⟩ : ∃ V, V = w.heap.size + 1 := ⟨_, rfl⟩
  have hsa : w.heap.size ≤ A := by omega
  rw [← hV] at HQ2
  rw [← hU] at HQ3
  rw [show (Value.pointer (some { block := w.heap.size, off := 0 })) = Value.pointer (some { block := Y, off := 0 }) by rw [hU]]
  rw [show (Value.pointer (some { block := w.heap.size + 1, off := 0 })) = Value.pointer (some { block := A, off := 0 }) by rw [hV]]
  have HM1 : Hid (YW w w1 Y A #[.int .i64 pt, .slice af lf cf, .slice ad ld cd, .slice as' ls cs]) := ⟨HQ3.out, HQ2.out, hsa, HB1.out⟩
  clear hw1 hU hV HQ1 HQ2 HQ3 HB1 hsa
  have y0 : w1.cell? ⟨Y, 0, none⟩ = some (.int .i64 pt) := (cells_at HM1.out.hY 0).trans rfl
  have y1 : w1.cell? ⟨Y, 1, none⟩ = some (.slice af lf cf) := (cells_at HM1.out.hY 1).trans rfl
  have y2 : w1.cell? ⟨Y, 2, none⟩ = some (.slice ad ld cd) := (cells_at HM1.out.hY 2).trans rfl
  have y3 : w1.cell? ⟨Y, 3, none⟩ = some (.slice as' ls cs) := (cells_at HM1.out.hY 3).trans rfl
  have HC1 := hide' (HMY.out w1 HM1.out.bel)
  go_wp2_with fail
  refine HC1.out.mono ?_
  rintro e w2 ⟨rfl, hb2⟩
  have HM2 := hide' (HM1.out.more hb2)
  clear hb2 HC1 HM1 y0 y1 y2 y3 HMY
  cases mb with
  | false =>
    have HAA : Hid (((((w2.setCell ⟨A, 0, none⟩ (.int .i64 0)).setCell ⟨A, 1, none⟩ (.slice none 0 0)).setCell ⟨A, 2, none⟩ (.slice none 0 0)).setCell ⟨A, 3, none⟩ (.slice none 0 0)).heap[A]? = some (.cells zero4 25 (0, 0))) := (set_any (set_any (set_any (set_any HM2.out.hA 0 _) 1 _) 2 _) 3 _).trans (congrArg (fun c => some (Obj.cells c 25 (0, 0))) (set4 _ _ _ _ _ _ _ _))
    have HBF : Hid (Below w.heap.size w ((((w2.setCell ⟨A, 0, none⟩ (.int .i64 0)).setCell ⟨A, 1, none⟩ (.slice none 0 0)).setCell ⟨A, 2, none⟩ (.slice none 0 0)).setCell ⟨A, 3, none⟩ (.slice none 0 0))) := ((((HM2.out.bel.setCell (p := ⟨A, 0, none⟩) HM2.out.sA _).setCell (p := ⟨A, 1, none⟩) HM2.out.sA _).setCell (p := ⟨A, 2, none⟩) HM2.out.sA _).setCell (p := ⟨A, 3, none⟩) HM2.out.sA _)
    have a0 : w2.cell? ⟨A, 0, none⟩ = some (.int .i64 0) := (cells_at HM2.out.hA 0).trans rfl
    have f0 : w2.frozen? ⟨A, 0, none⟩ = false := frozen_no HM2.out.hA _
    have a1 : w2.cell? ⟨A, 1, none⟩ = some (.slice none 0 0) := (cells_at HM2.out.hA 1).trans rfl
    have f1 : w2.frozen? ⟨A, 1, none⟩ = false := frozen_no HM2.out.hA _
    have a2 : w2.cell? ⟨A, 2, none⟩ = some (.slice none 0 0) := (cells_at HM2.out.hA 2).trans rfl
    have f2 : w2.frozen? ⟨A, 2, none⟩ = false := frozen_no HM2.out.hA _
    have a3 : w2.cell? ⟨A, 3, none⟩ = some (.slice none 0 0) := (cells_at HM2.out.hA 3).trans rfl
    have f3 : w2.frozen? ⟨A, 3, none⟩ = false := frozen_no HM2.out.hA _
    go_wp2
    refine bodyPost_ret (results_cell_row1 rfl _ _ A 25 _ (0, 0) _ rfl HAA.out Try.underlying25 rfl (by kernel_rfl)) rfl ?_
    exact HWO.out _ _ ⟨.inl ⟨rfl, rfl⟩, HBF.out⟩
  | true =>
    have HMAY : Hid (MayY y) := HI.out.1 rfl
    have HC2 := hide' (HSO.out HMAY.out w2 HM2.out.bel)
    have y0 : w2.cell? ⟨Y, 0, none⟩ = some (.int .i64 pt) := (cells_at HM2.out.hY 0).trans rfl
    have y1 : w2.cell? ⟨Y, 1, none⟩ = some (.slice af lf cf) := (cells_at HM2.out.hY 1).trans rfl
    have y2 : w2.cell? ⟨Y, 2, none⟩ = some (.slice ad ld cd) := (cells_at HM2.out.hY 2).trans rfl
    have y3 : w2.cell? ⟨Y, 3, none⟩ = some (.slice as' ls cs) := (cells_at HM2.out.hY 3).trans rfl
    go_wp2_with fail
    refine HC2.out.mono ?_
    rintro e w3 ⟨rfl, hb3⟩
    have HM3 := hide' (HM2.out.more hb3)
    clear hb3 HC2 HM2 y0 y1 y2 y3 HSO
    cases sb with
    | false =>
      have HAA : Hid (((((w3.setCell ⟨A, 0, none⟩ (.int .i64 0)).setCell ⟨A, 1, none⟩ (.slice none 0 0)).setCell ⟨A, 2, none⟩ (.slice none 0 0)).setCell ⟨A, 3, none⟩ (.slice none 0 0)).heap[A]? = some (.cells zero4 25 (0, 0))) := (set_any (set_any (set_any (set_any HM3.out.hA 0 _) 1 _) 2 _) 3 _).trans (congrArg (fun c => some (Obj.cells c 25 (0, 0))) (set4 _ _ _ _ _ _ _ _))
      have HBF : Hid (Below w.heap.size w ((((w3.setCell ⟨A, 0, none⟩ (.int .i64 0)).setCell ⟨A, 1, none⟩ (.slice none 0 0)).setCell ⟨A, 2, none⟩ (.slice none 0 0)).setCell ⟨A, 3, none⟩ (.slice none 0 0))) := ((((HM3.out.bel.setCell (p := ⟨A, 0, none⟩) HM3.out.sA _).setCell (p := ⟨A, 1, none⟩) HM3.out.sA _).setCell (p := ⟨A, 2, none⟩) HM3.out.sA _).setCell (p := ⟨A, 3, none⟩) HM3.out.sA _)
      have a0 : w3.cell? ⟨A, 0, none⟩ = some (.int .i64 0) := (cells_at HM3.out.hA 0).trans rfl
      have f0 : w3.frozen? ⟨A, 0, none⟩ = false := frozen_no HM3.out.hA _
      have a1 : w3.cell? ⟨A, 1, none⟩ = some (.slice none 0 0) := (cells_at HM3.out.hA 1).trans rfl
      have f1 : w3.frozen? ⟨A, 1, none⟩ = false := frozen_no HM3.out.hA _
      have a2 : w3.cell? ⟨A, 2, none⟩ = some (.slice none 0 0) := (cells_at HM3.out.hA 2).trans rfl
      have f2 : w3.frozen? ⟨A, 2, none⟩ = false := frozen_no HM3.out.hA _
      have a3 : w3.cell? ⟨A, 3, none⟩ = some (.slice none 0 0) := (cells_at HM3.out.hA 3).trans rfl
      have f3 : w3.frozen? ⟨A, 3, none⟩ = false := frozen_no HM3.out.hA _
      go_wp2
      refine bodyPost_ret (results_cell_row1 rfl _ _ A 25 _ (0, 0) _ rfl HAA.out Try.underlying25 rfl (by kernel_rfl)) rfl ?_
      exact HWO.out _ _ ⟨.inl ⟨rfl, rfl⟩, HBF.out⟩
    | true =>
      have y0 : w3.cell? ⟨Y, 0, none⟩ = some (.int .i64 pt) := (cells_at HM3.out.hY 0).trans rfl
      have y1 : w3.cell? ⟨Y, 1, none⟩ = some (.slice af lf cf) := (cells_at HM3.out.hY 1).trans rfl
      have y2 : w3.cell? ⟨Y, 2, none⟩ = some (.slice ad ld cd) := (cells_at HM3.out.hY 2).trans rfl
      have y3 : w3.cell? ⟨Y, 3, none⟩ = some (.slice as' ls cs) := (cells_at HM3.out.hY 3).trans rfl
      by_cases hk0 : k < 0
      · have HK0 := hide' hk0
        have HAA : Hid (((((w3.setCell ⟨A, 0, none⟩ (.int .i64 0)).setCell ⟨A, 1, none⟩ (.slice none 0 0)).setCell ⟨A, 2, none⟩ (.slice none 0 0)).setCell ⟨A, 3, none⟩ (.slice none 0 0)).heap[A]? = some (.cells zero4 25 (0, 0))) := (set_any (set_any (set_any (set_any HM3.out.hA 0 _) 1 _) 2 _) 3 _).trans (congrArg (fun c => some (Obj.cells c 25 (0, 0))) (set4 _ _ _ _ _ _ _ _))
        have HBF : Hid (Below w.heap.size w ((((w3.setCell ⟨A, 0, none⟩ (.int .i64 0)).setCell ⟨A, 1, none⟩ (.slice none 0 0)).setCell ⟨A, 2, none⟩ (.slice none 0 0)).setCell ⟨A, 3, none⟩ (.slice none 0 0))) := ((((HM3.out.bel.setCell (p := ⟨A, 0, none⟩) HM3.out.sA _).setCell (p := ⟨A, 1, none⟩) HM3.out.sA _).setCell (p := ⟨A, 2, none⟩) HM3.out.sA _).setCell (p := ⟨A, 3, none⟩) HM3.out.sA _)
        have a0 : w3.cell? ⟨A, 0, none⟩ = some (.int .i64 0) := (cells_at HM3.out.hA 0).trans rfl
        have f0 : w3.frozen? ⟨A, 0, none⟩ = false := frozen_no HM3.out.hA _
        have a1 : w3.cell? ⟨A, 1, none⟩ = some (.slice none 0 0) := (cells_at HM3.out.hA 1).trans rfl
        have f1 : w3.frozen? ⟨A, 1, none⟩ = false := frozen_no HM3.out.hA _
        have a2 : w3.cell? ⟨A, 2, none⟩ = some (.slice none 0 0) := (cells_at HM3.out.hA 2).trans rfl
        have f2 : w3.frozen? ⟨A, 2, none⟩ = false := frozen_no HM3.out.hA _
        have a3 : w3.cell? ⟨A, 3, none⟩ = some (.slice none 0 0) := (cells_at HM3.out.hA 3).trans rfl
        have f3 : w3.frozen? ⟨A, 3, none⟩ = false := frozen_no HM3.out.hA _
        go_wp2
        refine bodyPost_ret (results_cell_row1 rfl _ _ A 25 _ (0, 0) _ rfl HAA.out Try.underlying25 rfl (by kernel_rfl)) rfl ?_
        exact HWO.out _ _ ⟨.inr (.inl ⟨rfl, .inl HK0.out, rfl⟩), HBF.out⟩
      by_cases hk1 : (ls : Int) ≤ k
      · have HK1 := hide' hk1
        have HAA : Hid (((((w3.setCell ⟨A, 0, none⟩ (.int .i64 0)).setCell ⟨A, 1, none⟩ (.slice none 0 0)).setCell ⟨A, 2, none⟩ (.slice none 0 0)).setCell ⟨A, 3, none⟩ (.slice none 0 0)).heap[A]? = some (.cells zero4 25 (0, 0))) := (set_any (set_any (set_any (set_any HM3.out.hA 0 _) 1 _) 2 _) 3 _).trans (congrArg (fun c => some (Obj.cells c 25 (0, 0))) (set4 _ _ _ _ _ _ _ _))
        have HBF : Hid (Below w.heap.size w ((((w3.setCell ⟨A, 0, none⟩ (.int .i64 0)).setCell ⟨A, 1, none⟩ (.slice none 0 0)).setCell ⟨A, 2, none⟩ (.slice none 0 0)).setCell ⟨A, 3, none⟩ (.slice none 0 0))) := ((((HM3.out.bel.setCell (p := ⟨A, 0, none⟩) HM3.out.sA _).setCell (p := ⟨A, 1, none⟩) HM3.out.sA _).setCell (p := ⟨A, 2, none⟩) HM3.out.sA _).setCell (p := ⟨A, 3, none⟩) HM3.out.sA _)
        have a0 : w3.cell? ⟨A, 0, none⟩ = some (.int .i64 0) := (cells_at HM3.out.hA 0).trans rfl
        have f0 : w3.frozen? ⟨A, 0, none⟩ = false := frozen_no HM3.out.hA _
        have a1 : w3.cell? ⟨A, 1, none⟩ = some (.slice none 0 0) := (cells_at HM3.out.hA 1).trans rfl
        have f1 : w3.frozen? ⟨A, 1, none⟩ = false := frozen_no HM3.out.hA _
        have a2 : w3.cell? ⟨A, 2, none⟩ = some (.slice none 0 0) := (cells_at HM3.out.hA 2).trans rfl
        have f2 : w3.frozen? ⟨A, 2, none⟩ = false := frozen_no HM3.out.hA _
        have a3 : w3.cell? ⟨A, 3, none⟩ = some (.slice none 0 0) := (cells_at HM3.out.hA 3).trans rfl
        have f3 : w3.frozen? ⟨A, 3, none⟩ = false := frozen_no HM3.out.hA _
        go_wp2
        refine bodyPost_ret (results_cell_row1 rfl _ _ A 25 _ (0, 0) _ rfl HAA.out Try.underlying25 rfl (by kernel_rfl)) rfl ?_
        exact HWO.out _ _ ⟨.inr (.inl ⟨rfl, .inr HK1.out, rfl⟩), HBF.out⟩
      obtain ⟨j, rfl⟩ : ∃ j : Nat, k = (j : Int) := ⟨k.toNat, by omega⟩
      have hjl : j < ls := by omega
      have HC3 := hide' (HMV.out HMAY.out j hjl w3 HM3.out.bel)
      go_wp2_with fail
      refine HC3.out.mono ?_
      intro e w4 hmo
      obtain ⟨hmo, hb4⟩ := HMO.out _ _ _ _ hmo
      have HM4 := hide' (HM3.out.more hb4)
      clear hb4 HC3 HM3 y0 y1 y2 y3
      rcases hmo with ⟨hne, rfl⟩ | ⟨h0e, ra1, ra2, ra3, rc1, rc2, rc3, rfl, hya⟩
      · have HNE := hide' hne
        rw [show zero4 = (#[Value.int IntKind.i64 0, Value.slice none 0 0, Value.slice none 0 0, Value.slice none 0 0] : Array Value) from rfl]
        clear hne
        have HAA : Hid (((((w4.setCell ⟨A, 0, none⟩ (.int .i64 0)).setCell ⟨A, 1, none⟩ (.slice none 0 0)).setCell ⟨A, 2, none⟩ (.slice none 0 0)).setCell ⟨A, 3, none⟩ (.slice none 0 0)).heap[A]? = some (.cells zero4 25 (0, 0))) := (set_any (set_any (set_any (set_any HM4.out.hA 0 _) 1 _) 2 _) 3 _).trans (congrArg (fun c => some (Obj.cells c 25 (0, 0))) (set4 _ _ _ _ _ _ _ _))
        have HBF : Hid (Below w.heap.size w ((((w4.setCell ⟨A, 0, none⟩ (.int .i64 0)).setCell ⟨A, 1, none⟩ (.slice none 0 0)).setCell ⟨A, 2, none⟩ (.slice none 0 0)).setCell ⟨A, 3, none⟩ (.slice none 0 0))) := ((((HM4.out.bel.setCell (p := ⟨A, 0, none⟩) HM4.out.sA _).setCell (p := ⟨A, 1, none⟩) HM4.out.sA _).setCell (p := ⟨A, 2, none⟩) HM4.out.sA _).setCell (p := ⟨A, 3, none⟩) HM4.out.sA _)
        have a0 : w4.cell? ⟨A, 0, none⟩ = some (.int .i64 0) := (cells_at HM4.out.hA 0).trans rfl
        have f0 : w4.frozen? ⟨A, 0, none⟩ = false := frozen_no HM4.out.hA _
        have a1 : w4.cell? ⟨A, 1, none⟩ = some (.slice none 0 0) := (cells_at HM4.out.hA 1).trans rfl
        have f1 : w4.frozen? ⟨A, 1, none⟩ = false := frozen_no HM4.out.hA _
        have a2 : w4.cell? ⟨A, 2, none⟩ = some (.slice none 0 0) := (cells_at HM4.out.hA 2).trans rfl
        have f2 : w4.frozen? ⟨A, 2, none⟩ = false := frozen_no HM4.out.hA _
        have a3 : w4.cell? ⟨A, 3, none⟩ = some (.slice none 0 0) := (cells_at HM4.out.hA 3).trans rfl
        have f3 : w4.frozen? ⟨A, 3, none⟩ = false := frozen_no HM4.out.hA _
        go_wp2
        refine bodyPost_ret (results_cell_row1 rfl _ _ A 25 _ (0, 0) _ rfl HAA.out Try.underlying25 rfl (by kernel_rfl)) rfl ?_
        exact HWO.out _ _ ⟨.inr (.inr ⟨rfl, j, rfl, hjl, .inl ⟨HNE.out, rfl⟩⟩), HBF.out⟩
      · have HOE := hide' h0e
        have HYA := hide' hya
        clear h0e hya
        have a0 : w4.cell? ⟨A, 0, none⟩ = some (.int .i64 0) := (cells_at HM4.out.hA 0).trans rfl
        have f0 : w4.frozen? ⟨A, 0, none⟩ = false := frozen_no HM4.out.hA _
        have a1 : w4.cell? ⟨A, 1, none⟩ = some (.slice none 0 0) := (cells_at HM4.out.hA 1).trans rfl
        have f1 : w4.frozen? ⟨A, 1, none⟩ = false := frozen_no HM4.out.hA _
        have a2 : w4.cell? ⟨A, 2, none⟩ = some (.slice none 0 0) := (cells_at HM4.out.hA 2).trans rfl
        have f2 : w4.frozen? ⟨A, 2, none⟩ = false := frozen_no HM4.out.hA _
        have a3 : w4.cell? ⟨A, 3, none⟩ = some (.slice none 0 0) := (cells_at HM4.out.hA 3).trans rfl
        have f3 : w4.frozen? ⟨A, 3, none⟩ = false := frozen_no HM4.out.hA _
        have hs9 : ∀ j, j ≠ A → ((((w4.setCell ⟨A, 0, none⟩ (.int .i64 pt)).setCell ⟨A, 1, none⟩ (.slice ra1 lf rc1)).setCell ⟨A, 2, none⟩ (.slice ra2 ld rc2)).setCell ⟨A, 3, none⟩ (.slice ra3 ls rc3)).heap[j]? = w4.heap[j]? := fun j hj => by
          rw [Below.heap_setCell _ _ _ j hj, Below.heap_setCell _ _ _ j hj, Below.heap_setCell _ _ _ j hj, Below.heap_setCell _ _ _ j hj]
        have HAA : Hid (((((w4.setCell ⟨A, 0, none⟩ (.int .i64 pt)).setCell ⟨A, 1, none⟩ (.slice ra1 lf rc1)).setCell ⟨A, 2, none⟩ (.slice ra2 ld rc2)).setCell ⟨A, 3, none⟩ (.slice ra3 ls rc3)).heap[A]? = some (.cells #[.int .i64 pt, .slice ra1 lf rc1, .slice ra2 ld rc2, .slice ra3 ls rc3] 25 (0, 0))) := (set_any (set_any (set_any (set_any HM4.out.hA 0 _) 1 _) 2 _) 3 _).trans (congrArg (fun c => some (Obj.cells c 25 (0, 0))) (set4 _ _ _ _ _ _ _ _))
        have HBF : Hid (Below w.heap.size w ((((w4.setCell ⟨A, 0, none⟩ (.int .i64 pt)).setCell ⟨A, 1, none⟩ (.slice ra1 lf rc1)).setCell ⟨A, 2, none⟩ (.slice ra2 ld rc2)).setCell ⟨A, 3, none⟩ (.slice ra3 ls rc3))) := ((((HM4.out.bel.setCell (p := ⟨A, 0, none⟩) HM4.out.sA _).setCell (p := ⟨A, 1, none⟩) HM4.out.sA _).setCell (p := ⟨A, 2, none⟩) HM4.out.sA _).setCell (p := ⟨A, 3, none⟩) HM4.out.sA _)
        have HYF : Hid (YardAt ((((w4.setCell ⟨A, 0, none⟩ (.int .i64 pt)).setCell ⟨A, 1, none⟩ (.slice ra1 lf rc1)).setCell ⟨A, 2, none⟩ (.slice ra2 ld rc2)).setCell ⟨A, 3, none⟩ (.slice ra3 ls rc3)) ra1 ra2 ra3 rc1 rc2 rc3 (y.turn j)) := HYA.out _ (fun j cur e1 fz hj he => hs9 j (fun e => by subst e; rw [HM4.out.hA] at hj; cases hj; simp at he))
        clear hs9
        go_wp2
        refine bodyPost_ret (results_cell_row1 rfl _ _ A 25 _ (0, 0) _ rfl HAA.out Try.underlying25 rfl (by kernel_rfl)) rfl ?_
        exact HWO.out _ _ ⟨.inr (.inr ⟨rfl, j, rfl, hjl, .inr ⟨HOE.out, ra1, ra2, ra3, rc1, rc2, rc3, rfl, HYF.out⟩⟩), HBF.out⟩
end Go.Proofs.Ytcnoipcpifackah
