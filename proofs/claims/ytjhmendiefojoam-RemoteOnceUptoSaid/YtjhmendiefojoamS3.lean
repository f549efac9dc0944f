/- A station with switches of its own; stations that are held against each other. -/
import Derived.Test.YtjhmendiefojoamYc
import Derived.Test.YtjhmendiefojoamS2
namespace Go.Proofs.Ytjhmendiefojoam
open Go.RowKit Go.Shelf

theorem But.below {M n : Nat} {w w' : World} (h : But M w w') (hn : n ≤ M) (hs : n ≤ w.heap.size) : Below n w w' := ⟨h.os, h.tape, h.output, h.size, fun k hk => h.block k (by omega) (by omega)⟩
theorem but_keep {A e : Nat} {w w' : World} {cur : Array Value} {fz : Nat × Nat} (h : But A w w') (hA : w.heap[A]? = some (.cells cur e fz)) : KeepE e w w' := fun k cur1 e1 fz1 hk he => h.block k (lt_heap hk) (fun ek => by subst ek; rw [hA] at hk; cases hk; exact he rfl)
theorem put7 {w : World} {A e : Nat} {S0 : StM} {v0 : Value} (h : w.heap[A]? = some (.cells (S0.cells v0) e (0, 0))) (S : StM) (v : Value) : (((((((w.setCell ⟨A, 0, none⟩ v).setCell ⟨A, 1, none⟩ (.int .i64 S.last)).setCell ⟨A, 2, none⟩ (.int .i64 S.armed)).setCell ⟨A, 3, none⟩ (.int .i64 S.point)).setCell ⟨A, 4, none⟩ (.bool S.want)).setCell ⟨A, 5, none⟩ (.int .i64 S.left)).setCell ⟨A, 6, none⟩ (.int .i64 S.pat)).heap[A]? = some (.cells (S.cells v) e (0, 0)) ∧ But A w (((((((w.setCell ⟨A, 0, none⟩ v).setCell ⟨A, 1, none⟩ (.int .i64 S.last)).setCell ⟨A, 2, none⟩ (.int .i64 S.armed)).setCell ⟨A, 3, none⟩ (.int .i64 S.point)).setCell ⟨A, 4, none⟩ (.bool S.want)).setCell ⟨A, 5, none⟩ (.int .i64 S.left)).setCell ⟨A, 6, none⟩ (.int .i64 S.pat)) := by
  refine ⟨?_, But.set (But.set (But.set (But.set (But.set (But.set (But.set (But.refl A w) _ _) _ _) _ _) _ _) _ _) _ _) _ _⟩
  exact (set_any (set_any (set_any (set_any (set_any (set_any (set_any h 0 _) 1 _) 2 _) 3 _) 4 _) 5 _) 6 _).trans (by unfold StM.cells; simp only [List.setIfInBounds_toArray, List.set_cons_zero, List.set_cons_succ])
theorem Try.info4 : (Try.prog.info? 4).map (fun i => (i.zero, i.size, i.bytes)) = some (some (.bool false), 1, 1) := by kernel_rfl
theorem info_parts {i? : Option TypeInfo} {z : Option Value} {s b : Nat} (h : i?.map (fun i => (i.zero, i.size, i.bytes)) = some (z, s, b)) : ∃ i, i? = some i ∧ i.zero = z ∧ i.size = s ∧ i.bytes = b := by
  cases i? with
  | none => cases h
  | some i => simp at h; exact ⟨i, rfl, h.1, h.2.1, h.2.2⟩
set_option maxRecDepth 100000 in
set_option maxHeartbeats 2000000 in
theorem StationOf_any (S : StM) (l : List Bool) (n c : Nat) (a : Option Addr) (w : World) (hr : RowAt w (.slice a n c) n 1 (l.map Value.bool)) (hn : n ≤ 2000000) : Calls Try.prog 9 #[.agg (S.cells (.slice a n c))] w fun e w' => ∃ a' c', e = .returned (.agg (S.cells (.slice a' n c'))) ∧ w'.ownsRow w.heap.size 4 1 (.slice a' n c') n (l.map Value.bool) ∧ Below w.heap.size w w' := by
  obtain ⟨i4, hi4, h40, h41, h42⟩ := info_parts Try.info4
  have HRR := hide' hr
  obtain ⟨last, armed, point, want, left, pat⟩ := S
  have HZ := hide' (fun (x : World) (A : Nat) (a1 : Option Addr) (d1 : Nat) (h : x.heap[A]? = some (.cells #[.slice none 0 0, .int .i64 0, .int .i64 0, .int .i64 0, .bool false, .int .i64 0, .int .i64 0] 24 (0, 0))) => put7 (S0 := ⟨0, 0, 0, false, 0, 0⟩) h ⟨last, armed, point, want, left, pat⟩ (.slice a1 n d1))
  unfold StM.cells at HZ ⊢
  simp only at HZ ⊢
  clear hr
  go_enter Try.func9, Try.ntmps9
  go_upto_region 1 with fail
  have hqY := (alloc_old (w.alloc (.cells #[.slice a n c, .int .i64 last, .int .i64 armed, .int .i64 point, .bool want, .int .i64 left, .int .i64 pat] 24)) (.cells #[.slice none 0 0, .int .i64 0, .int .i64 0, .int .i64 0, .bool false, .int .i64 0, .int .i64 0] 24) (lt_heap (alloc_new w (.cells #[.slice a n c, .int .i64 last, .int .i64 armed, .int .i64 point, .bool want, .int .i64 left, .int .i64 pat] 24)))).trans (alloc_new w (.cells #[.slice a n c, .int .i64 last, .int .i64 armed, .int .i64 point, .bool want, .int .i64 left, .int .i64 pat] 24))
  have hqA := alloc_new (w.alloc (.cells #[.slice a n c, .int .i64 last, .int .i64 armed, .int .i64 point, .bool want, .int .i64 left, .int .i64 pat] 24)) (.cells #[.slice none 0 0, .int .i64 0, .int .i64 0, .int .i64 0, .bool false, .int .i64 0, .int .i64 0] 24)
  have hb1 := (below_al w (.cells #[.slice a n c, .int .i64 last, .int .i64 armed, .int .i64 point, .bool want, .int .i64 left, .int .i64 pat] 24)).alloc (below_al w (.cells #[.slice a n c, .int .i64 last, .int .i64 armed, .int .i64 point, .bool want, .int .i64 left, .int .i64 pat] 24)).size (.cells #[.slice none 0 0, .int .i64 0, .int .i64 0, .int .i64 0, .bool false, .int .i64 0, .int .i64 0] 24)
  rw [show (w.alloc (.cells #[.slice a n c, .int .i64 last, .int .i64 armed, .int .i64 point, .bool want, .int .i64 left, .int .i64 pat] 24)).heap.size = w.heap.size + 1 from by simp only [World.size_alloc]] at hqA
  obtain ⟨w1, hw1⟩ : ∃ x, x = ((w.alloc (.cells #[.slice a n c, .int .i64 last, .int .i64 armed, .int .i64 point, .bool want, .int .i64 left, .int .i64 pat] 24)).alloc (.cells #[.slice none 0 0, .int .i64 0, .int .i64 0, .int .i64 0, .bool false, .int .i64 0, .int .i64 0] 24)) := ⟨_, rfl⟩
  rw [← hw1] at hqY hqA hb1 ⊢
  obtain ⟨Y, hnY⟩ : ∃ x, x = w.heap.size := ⟨_, rfl⟩
  obtain ⟨A, hnA⟩ : ∃ x, x = w.heap.size + 1 := ⟨_, rfl⟩
  have HNE : Hid (w.heap.size ≤ Y ∧ w.heap.size ≤ A ∧ Y ≠ A) := ⟨by omega, by omega, by omega⟩
  rw [← hnY] at hqY
  rw [← hnA] at hqA
  rw [show (Value.pointer (some { block := w.heap.size, off := 0 })) = Value.pointer (some { block := Y, off := 0 }) by rw [hnY], show (Value.pointer (some { block := w.heap.size + 1, off := 0 })) = Value.pointer (some { block := A, off := 0 }) by rw [hnA]]
  have HQY := hide' hqY
  have HQA := hide' hqA
  have HB1 := hide' hb1
  clear hqY hqA hb1 hw1 hnY hnA
  have HR1 := hide' (HRR.out.below HB1.out (Nat.le_refl _))
  have c0 : w1.cell? ⟨Y, 0, none⟩ = some (.slice a n c) := (cells_at HQY.out 0).trans rfl
  go_wp2_with (at_builtin; refine wpList_append_any _ rfl _ _ 22 rfl w.heap.size 4 i4 _ 1 1 Try.underlying22 hi4 h40 h41 h42 rfl (by decide) _ _ _ rfl (World.ownsRow_nil _ _ _ _) _ _ _ rfl HR1.out (bools_one l) (by unfold maxLen; omega) (by omega) HB1.out.size ?_; intro v1 x1 hown1 hgrow1; refine Still.go ?_)
  unfold Still
  have hg1 : w1.grownBy x1 none := hgrow1
  have ho1 : x1.ownsRow w.heap.size 4 1 v1 n (l.map Value.bool) := by have h := hown1; simpa using h
  obtain ⟨a1, d1, rfl⟩ := own_slice ho1
  have hb1 : Below w1.heap.size w1 x1 := (Below.refl _ w1).grown hg1 (Nat.le_refl _) (fun k e => by cases e)
  have HBX : Hid (Below w.heap.size w x1) := HB1.out.trans (hb1.mono HB1.out.size)
  have HYX := hide' ((hb1.block Y (lt_heap HQY.out)).trans HQY.out)
  have HAX := hide' ((hb1.block A (lt_heap HQA.out)).trans HQA.out)
  have HO1 := hide' ho1
  have g0 : x1.cell? ⟨Y, 0, none⟩ = some (.slice a n c) := (cells_at HYX.out 0).trans rfl
  have k0 : x1.frozen? ⟨Y, 0, none⟩ = false := frozen_no HYX.out _
  clear hown1 hgrow1 hg1 ho1 hb1 HR1 c0 HB1 HQY HQA
  go_upto_region 2 with fail
  have HYS : Hid ((x1.setCell ⟨Y, 0, none⟩ (.slice a1 n d1)).heap[Y]? = some (.cells #[.slice a1 n d1, .int .i64 last, .int .i64 armed, .int .i64 point, .bool want, .int .i64 left, .int .i64 pat] 24 (0, 0))) := (set_any HYX.out 0 _).trans (by simp only [List.setIfInBounds_toArray, List.set_cons_zero])
  have HAS : Hid ((x1.setCell ⟨Y, 0, none⟩ (.slice a1 n d1)).heap[A]? = some (.cells #[.slice none 0 0, .int .i64 0, .int .i64 0, .int .i64 0, .bool false, .int .i64 0, .int .i64 0] 24 (0, 0))) := (Below.heap_setCell _ _ _ A HNE.out.2.2.symm).trans HAX.out
  have HBS : Hid (Below w.heap.size w (x1.setCell ⟨Y, 0, none⟩ (.slice a1 n d1))) := HBX.out.setCell (p := ⟨Y, 0, none⟩) HNE.out.1 _
  have HOS := hide' (own_keep HO1.out (keep_set HYX.out 0 (.slice a1 n d1)) (by decide))
  obtain ⟨w2, hw2⟩ : ∃ x, x = x1.setCell ⟨Y, 0, none⟩ (.slice a1 n d1) := ⟨_, rfl⟩
  rw [← hw2] at HYS HAS HBS HOS ⊢
  clear hw2 g0 k0 HYX HAX HBX HO1
  obtain ⟨c0, c1, c2, c3, c4, c5, c6⟩ := cellsP7 HYS.out
  obtain ⟨b0, b1, b2, b3, b4, b5, b6⟩ := cellsP7 HAS.out
  obtain ⟨e0, e1, e2, e3, e4, e5, e6⟩ := frozenP7 HAS.out
  have HP := hide' (HZ.out w2 A a1 d1 HAS.out)
  have HOF := hide' (own_keep HOS.out (but_keep HP.out.2 HAS.out) (by decide))
  have HBF := hide' (HBS.out.trans (HP.out.2.below HNE.out.2.1 HBS.out.size))
  clear HOS HBS HZ HRR
  go_wp2
  refine bodyPost_ret (results_cell_row rfl _ _ A 24 _ (0, 0) _ rfl HP.out.1 Try.underlying24 rfl (by kernel_rfl)) rfl ?_
  exact ⟨a1, d1, rfl, HOF.out, HBF.out⟩
set_option maxRecDepth 100000 in
set_option maxHeartbeats 2000000 in
theorem atWork_any (S : StM) (l : List Bool) (n c : Nat) (a : Option Addr) (w : World) (hr : RowAt w (.slice a n c) n 1 (l.map Value.bool)) (hn : n ≤ 2000000) : Calls Try.prog 24 #[.agg (S.cells (.slice a n c))] w fun e w' => ∃ K a' c', e = .returned (.pointer (some ⟨K, 0, none⟩)) ∧ w'.heap[K]? = some (.cells (S.cells (.slice a' n c')) 60 (0, 0)) ∧ w.heap.size ≤ K ∧ w'.ownsRow w.heap.size 4 1 (.slice a' n c') n (l.map Value.bool) ∧ Below w.heap.size w w' := by
  obtain ⟨i4, hi4, h40, h41, h42⟩ := info_parts Try.info4
  have HRR := hide' hr
  obtain ⟨last, armed, point, want, left, pat⟩ := S
  unfold StM.cells
  simp only
  clear hr
  go_enter Try.func24, Try.ntmps24
  go_upto_region 1 with fail
  have hqY := alloc_new w (.cells #[.slice a n c, .int .i64 last, .int .i64 armed, .int .i64 point, .bool want, .int .i64 left, .int .i64 pat] 24)
  have hb1 := below_al w (.cells #[.slice a n c, .int .i64 last, .int .i64 armed, .int .i64 point, .bool want, .int .i64 left, .int .i64 pat] 24)
  obtain ⟨w1, hw1⟩ : ∃ x, x = (w.alloc (.cells #[.slice a n c, .int .i64 last, .int .i64 armed, .int .i64 point, .bool want, .int .i64 left, .int .i64 pat] 24)) := ⟨_, rfl⟩
  rw [← hw1] at hqY hb1 ⊢
  obtain ⟨Y, hnY⟩ : ∃ x, x = w.heap.size := ⟨_, rfl⟩
  have HNE : Hid (w.heap.size ≤ Y) := by show _ ≤ _; omega
  rw [← hnY] at hqY
  rw [show (Value.pointer (some { block := w.heap.size, off := 0 })) = Value.pointer (some { block := Y, off := 0 }) by rw [hnY]]
  have HQY := hide' hqY
  have HB1 := hide' hb1
  clear hqY hb1 hw1 hnY
  have HR1 := hide' (HRR.out.below HB1.out (Nat.le_refl _))
  have c0 : w1.cell? ⟨Y, 0, none⟩ = some (.slice a n c) := (cells_at HQY.out 0).trans rfl
  go_wp2_with (at_builtin; refine wpList_append_any _ rfl _ _ 22 rfl w.heap.size 4 i4 _ 1 1 Try.underlying22 hi4 h40 h41 h42 rfl (by decide) _ _ _ rfl (World.ownsRow_nil _ _ _ _) _ _ _ rfl HR1.out (bools_one l) (by unfold maxLen; omega) (by omega) HB1.out.size ?_; intro v1 x1 hown1 hgrow1; refine Still.go ?_)
  unfold Still
  have hg1 : w1.grownBy x1 none := hgrow1
  have ho1 : x1.ownsRow w.heap.size 4 1 v1 n (l.map Value.bool) := by have h := hown1; simpa using h
  obtain ⟨a1, d1, rfl⟩ := own_slice ho1
  have hb1 : Below w1.heap.size w1 x1 := (Below.refl _ w1).grown hg1 (Nat.le_refl _) (fun k e => by cases e)
  have HBX : Hid (Below w.heap.size w x1) := HB1.out.trans (hb1.mono HB1.out.size)
  have HYX := hide' ((hb1.block Y (lt_heap HQY.out)).trans HQY.out)
  have HO1 := hide' ho1
  have g0 : x1.cell? ⟨Y, 0, none⟩ = some (.slice a n c) := (cells_at HYX.out 0).trans rfl
  have k0 : x1.frozen? ⟨Y, 0, none⟩ = false := frozen_no HYX.out _
  clear hown1 hgrow1 hg1 ho1 hb1 HR1 c0 HB1 HQY
  go_upto_region 2 with fail
  have HYS : Hid ((x1.setCell ⟨Y, 0, none⟩ (.slice a1 n d1)).heap[Y]? = some (.cells #[.slice a1 n d1, .int .i64 last, .int .i64 armed, .int .i64 point, .bool want, .int .i64 left, .int .i64 pat] 24 (0, 0))) := (set_any HYX.out 0 _).trans (by simp only [List.setIfInBounds_toArray, List.set_cons_zero])
  have HBS : Hid (Below w.heap.size w (x1.setCell ⟨Y, 0, none⟩ (.slice a1 n d1))) := HBX.out.setCell (p := ⟨Y, 0, none⟩) HNE.out _
  have HOS := hide' (own_keep HO1.out (keep_set HYX.out 0 (.slice a1 n d1)) (by decide))
  obtain ⟨w2, hw2⟩ : ∃ x, x = x1.setCell ⟨Y, 0, none⟩ (.slice a1 n d1) := ⟨_, rfl⟩
  rw [← hw2] at HYS HBS HOS ⊢
  clear hw2 g0 k0 HYX HBX HO1
  obtain ⟨c0, c1, c2, c3, c4, c5, c6⟩ := cellsP7 HYS.out
  have hx := alloc_new w2 (.cells #[.slice a1 n d1, .int .i64 last, .int .i64 armed, .int .i64 point, .bool want, .int .i64 left, .int .i64 pat] 60)
  have HF : Hid ((w2.alloc (.cells #[.slice a1 n d1, .int .i64 last, .int .i64 armed, .int .i64 point, .bool want, .int .i64 left, .int .i64 pat] 60)).heap[w2.heap.size]? = some (.cells #[.slice a1 n d1, .int .i64 last, .int .i64 armed, .int .i64 point, .bool want, .int .i64 left, .int .i64 pat] 60 (0, 0)) ∧ w.heap.size ≤ w2.heap.size ∧ (w2.alloc (.cells #[.slice a1 n d1, .int .i64 last, .int .i64 armed, .int .i64 point, .bool want, .int .i64 left, .int .i64 pat] 60)).ownsRow w.heap.size 4 1 (.slice a1 n d1) n (l.map Value.bool) ∧ Below w.heap.size w (w2.alloc (.cells #[.slice a1 n d1, .int .i64 last, .int .i64 armed, .int .i64 point, .bool want, .int .i64 left, .int .i64 pat] 60))) := ⟨hx, HBS.out.size, own_below HOS.out (below_al w2 _) (Nat.le_refl _), HBS.out.alloc HBS.out.size _⟩
  clear HOS HBS HRR hx
  go_wp2
  go_ret
  exact ⟨_, a1, d1, rfl, HF.out⟩
theorem bool_cell2 {w : World} {v : Value} {l : List Bool} {n : Nat} (h : RowAt w v n 1 (l.map Value.bool)) (k : Nat) (hk : k < n) : ∃ b off c, v = .slice (some ⟨b, off, none⟩) n c ∧ w.cell? ⟨b, off + k, none⟩ = some (.bool (l.getD k false)) := by
  obtain ⟨hl, a, c, rfl, h2⟩ := h
  have hk' : k < l.length := by simpa using (show k < (l.map Value.bool).length by rw [hl]; omega)
  obtain ⟨b, off, rfl, h3⟩ := h2 k (.bool (l.getD k false)) (by rw [List.getElem?_map, List.getElem?_eq_getElem hk', List.getD_eq_getElem?_getD, List.getElem?_eq_getElem hk']; rfl)
  exact ⟨b, off, c, rfl, h3⟩
set_option maxRecDepth 100000 in
set_option maxHeartbeats 2000000 in
theorem sameSides_same (l : List Bool) (n : Nat) (u v : Value) (w : World) (hu : RowAt w u n 1 (l.map Value.bool)) (hv : RowAt w v n 1 (l.map Value.bool)) (hn : n ≤ 3000000) :
    Calls Try.prog 27 #[u, v] w fun e w' => e = .returned (.bool true) ∧ Below w.heap.size w w' := by
  have HU := hide' hu
  have HV := hide' hv
  obtain ⟨au, cu, rfl⟩ := rowAt_slice hu
  obtain ⟨av, cv, rfl⟩ := rowAt_slice hv
  clear hu hv
  go_enter Try.func27, Try.ntmps27
  go_wp2_with fail
  go_loopw [5] (fun i wr => ∃ (k : Nat), i = .int .i64 k ∧ k ≤ n ∧ Hid (Below w.heap.size w wr)) (fun i _ => n - (intOf i).toNat)
  case atStart => exact ⟨0, rfl, Nat.zero_le _, Below.refl _ w⟩
  case round =>
    obtain ⟨k, rfl, hk, HBE⟩ := hrel
    by_cases hlt : k < n
    · obtain ⟨b1, o1, c1, ex1, hc1⟩ := bool_cell2 HU.out k hlt
      cases ex1
      obtain ⟨b2, o2, c2, ex2, hc2⟩ := bool_cell2 HV.out k hlt
      cases ex2
      have e1 := up_cell HBE.out hc1
      have e2 := up_cell HBE.out hc2
      obtain ⟨x, hx⟩ : ∃ x, x = l.getD k false := ⟨_, rfl⟩
      rw [← hx] at e1 e2
      have HBD : Hid (∀ m, Below w.heap.size w (wr.drewN m)) := fun m => below_drewN HBE.out m
      clear hc1 hc2 hx HBE
      cases x
      all_goals
        go_wp2_with fail
        go_quiet (fail)
        go_wp2
        go_roundw
        case rel => exact ⟨k + 1, by go_num, by omega, HBD.out _⟩
        case measure => simp [intOf]; omega
    · go_wp2
      go_ret
      exact ⟨rfl, HBE.out⟩
set_option maxRecDepth 100000 in
set_option maxHeartbeats 2000000 in
theorem sameStation_same (S : StM) (l : List Bool) (n ca cb : Nat) (aa ab : Option Addr) (w : World) (hu : RowAt w (.slice aa n ca) n 1 (l.map Value.bool)) (hv : RowAt w (.slice ab n cb) n 1 (l.map Value.bool)) (hn : n ≤ 3000000) :
    Calls Try.prog 11 #[.agg (S.cells (.slice aa n ca)), .agg (S.cells (.slice ab n cb))] w fun e w' => e = .returned (.bool true) ∧ Below w.heap.size w w' := by
  have HS := hide' (fun w' (hb : Below w.heap.size w w') => sameSides_same l n _ _ w' (hu.below hb (Nat.le_refl _)) (hv.below hb (Nat.le_refl _)) hn)
  clear hu hv
  obtain ⟨last, armed, point, want, left, pat⟩ := S
  unfold StM.cells
  simp only
  go_enter Try.func11, Try.ntmps11
  go_upto_region 1 with fail
  have hqY := (alloc_old (w.alloc (.cells #[.slice aa n ca, .int .i64 last, .int .i64 armed, .int .i64 point, .bool want, .int .i64 left, .int .i64 pat] 24)) (.cells #[.slice ab n cb, .int .i64 last, .int .i64 armed, .int .i64 point, .bool want, .int .i64 left, .int .i64 pat] 24) (lt_heap (alloc_new w (.cells #[.slice aa n ca, .int .i64 last, .int .i64 armed, .int .i64 point, .bool want, .int .i64 left, .int .i64 pat] 24)))).trans (alloc_new w (.cells #[.slice aa n ca, .int .i64 last, .int .i64 armed, .int .i64 point, .bool want, .int .i64 left, .int .i64 pat] 24))
  have hqZ := alloc_new (w.alloc (.cells #[.slice aa n ca, .int .i64 last, .int .i64 armed, .int .i64 point, .bool want, .int .i64 left, .int .i64 pat] 24)) (.cells #[.slice ab n cb, .int .i64 last, .int .i64 armed, .int .i64 point, .bool want, .int .i64 left, .int .i64 pat] 24)
  have hb1 := (below_al w (.cells #[.slice aa n ca, .int .i64 last, .int .i64 armed, .int .i64 point, .bool want, .int .i64 left, .int .i64 pat] 24)).alloc (below_al w (.cells #[.slice aa n ca, .int .i64 last, .int .i64 armed, .int .i64 point, .bool want, .int .i64 left, .int .i64 pat] 24)).size (.cells #[.slice ab n cb, .int .i64 last, .int .i64 armed, .int .i64 point, .bool want, .int .i64 left, .int .i64 pat] 24)
  rw [show (w.alloc (.cells #[.slice aa n ca, .int .i64 last, .int .i64 armed, .int .i64 point, .bool want, .int .i64 left, .int .i64 pat] 24)).heap.size = w.heap.size + 1 from by simp only [World.size_alloc]] at hqZ
  obtain ⟨w1, hw1⟩ : ∃ x, x = ((w.alloc (.cells #[.slice aa n ca, .int .i64 last, .int .i64 armed, .int .i64 point, .bool want, .int .i64 left, .int .i64 pat] 24)).alloc (.cells #[.slice ab n cb, .int .i64 last, .int .i64 armed, .int .i64 point, .bool want, .int .i64 left, .int .i64 pat] 24)) := ⟨_, rfl⟩
  rw [← hw1] at hqY hqZ hb1 ⊢
  obtain ⟨Y, hnY⟩ : ∃ x, x = w.heap.size := ⟨_, rfl⟩
  obtain ⟨Z, hnZ⟩ : ∃ x, x = w.heap.size + 1 := ⟨_, rfl⟩
  have HNE : Hid (w.heap.size ≤ Y ∧ w.heap.size ≤ Z ∧ Y ≠ Z) := ⟨by omega, by omega, by omega⟩
  rw [← hnY] at hqY
  rw [← hnZ] at hqZ
  rw [show (Value.pointer (some { block := w.heap.size, off := 0 })) = Value.pointer (some { block := Y, off := 0 }) by rw [hnY], show (Value.pointer (some { block := w.heap.size + 1, off := 0 })) = Value.pointer (some { block := Z, off := 0 }) by rw [hnZ]]
  have HQY := hide' hqY
  have HQZ := hide' hqZ
  have HB1 := hide' hb1
  clear hqY hqZ hb1 hw1 hnY hnZ
  have c0 : w1.cell? ⟨Y, 0, none⟩ = some (.slice aa n ca) := (cells_at HQY.out 0).trans rfl
  have d0 : w1.cell? ⟨Z, 0, none⟩ = some (.slice ab n cb) := (cells_at HQZ.out 0).trans rfl
  go_wp2_with fail
  refine (HS.out w1 HB1.out).mono ?_
  rintro e w2 ⟨rfl, hb⟩
  have HB2 : Hid (Below w.heap.size w w2) := HB1.out.trans (hb.mono HB1.out.size)
  have HY2 := hide' ((hb.block Y (lt_heap HQY.out)).trans HQY.out)
  have HZ2 := hide' ((hb.block Z (lt_heap HQZ.out)).trans HQZ.out)
  clear hb HS HB1 HQY HQZ c0 d0
  obtain ⟨-, c1, c2, c3, c4, c5, c6⟩ := cellsP7 HY2.out
  obtain ⟨-, d1, d2, d3, d4, d5, d6⟩ := cellsP7 HZ2.out
  clear HY2 HZ2
  cases want
  all_goals
    go_wp2
    go_ret
    exact ⟨rfl, HB2.out⟩
end Go.Proofs.Ytjhmendiefojoam
