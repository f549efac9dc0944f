/- What a master sends goes onto the way; one is picked off it. -/
import Derived.Test.YtjhmendiefojoamYc
import Derived.Test.YtjhmendiefojoamO8
namespace Go.Proofs.Ytjhmendiefojoam
open Go.RowKit Go.Shelf

set_option maxRecDepth 100000 in
set_option maxHeartbeats 2000000 in
theorem sent_any (W : Wl) (B K : Nat) (pv dv uv ov av cv lv : Value) (M : MaM) (o : List MsM) (w : World) (hW : WAt w B K W pv dv uv ov av cv) (hl : w.ownsRow 0 39 4 lv o.length (msgs o)) (hd : Apart lv dv) (bd : W.down.length ≤ 1000000 ∧ W.old.length ≤ 1000000 ∧ o.length ≤ 1) : Calls Try.prog 38 #[.pointer (some ⟨K, 0, none⟩), .agg M.cells, lv] w fun e w' => e = .returned (.tuple #[]) ∧ (∃ dv' ov', WAt w' B K (W.sent M o) pv dv' uv ov' av cv) ∧ Bl B w w' := by
  obtain ⟨i39, hi39, h390, h391, h392⟩ := info_parts Try.info39'
  obtain ⟨no, ph, now, pt, want, timer, pat, tries, lim, gave⟩ := M
  unfold MaM.cells
  simp only
  have HW := hide' hW
  have HL := hide' hl
  have HD := hide' hd
  have hB := Nat.le_trans hW.bk (Nat.le_of_lt (lt_heap hW.cell))
  clear hW hl hd
  go_enter Try.func38, Try.ntmps38
  go_upto_region 1 with fail
  have hqY := alloc_new w (.cells #[.int .i64 no, .int .i64 ph, .int .i64 now, .int .i64 pt, .bool want, .int .i64 timer, .int .i64 pat, .int .i64 tries, .int .i64 lim, .bool gave] 32)
  have hb1 := below_al w (.cells #[.int .i64 no, .int .i64 ph, .int .i64 now, .int .i64 pt, .bool want, .int .i64 timer, .int .i64 pat, .int .i64 tries, .int .i64 lim, .bool gave] 32)
  obtain ⟨w1, hw1⟩ : ∃ x, x = (w.alloc (.cells #[.int .i64 no, .int .i64 ph, .int .i64 now, .int .i64 pt, .bool want, .int .i64 timer, .int .i64 pat, .int .i64 tries, .int .i64 lim, .bool gave] 32)) := ⟨_, rfl⟩
  rw [← hw1] at hqY hb1 ⊢
  obtain ⟨Y, hnY⟩ : ∃ x, x = w.heap.size := ⟨_, rfl⟩
  have HNE : Hid (w.heap.size ≤ Y) := by show _ ≤ _; omega
  rw [← hnY] at hqY
  rw [show (Value.pointer (some { block := w.heap.size, off := 0 })) = Value.pointer (some { block := Y, off := 0 }) by rw [hnY]]
  have HQY := hide' hqY
  have HB1 := hide' hb1
  clear hqY hb1 hw1 hnY
  have HW1 := hide' (HW.out.below HB1.out)
  have HL1 := hide' (own_below HL.out HB1.out (Nat.le_refl _))
  have HBB : Hid (Bl B w w1) := bl_of HB1.out hB
  obtain ⟨c0, c1, c2, c3, c4, c5, c6, c7, c8, c9⟩ := cellsP10 HQY.out
  have HC1 : Hid (w1.heap[K]? = some (.cells #[.int .i64 W.m.no, .int .i64 W.m.ph, .int .i64 W.m.now, .int .i64 W.m.pt, .bool W.m.want, .int .i64 W.m.timer, .int .i64 W.m.pat, .int .i64 W.m.tries, .int .i64 W.m.lim, .bool W.m.gave, pv, .int .i64 W.s.last, .int .i64 W.s.armed, .int .i64 W.s.point, .bool W.s.want, .int .i64 W.s.left, .int .i64 W.s.pat, dv, uv, ov, av, cv] 52 (0, 0))) := HW1.out.cell
  obtain ⟨k0, k1, k2, k3, k4, k5, k6, k7, k8, k9⟩ := cellsP10 HC1.out
  obtain ⟨e0, e1, e2, e3, e4, e5, e6, e7, e8, e9⟩ := frozenP10 HC1.out
  have HP := hide' (putM HC1.out (.int .i64 no) (.int .i64 ph) (.int .i64 now) (.int .i64 pt) (.bool want) (.int .i64 timer) (.int .i64 pat) (.int .i64 tries) (.int .i64 lim) (.bool gave))
  clear HB1 HQY
  go_upto_region 2 with fail
  obtain ⟨w2, hw2⟩ : ∃ x, x = ((((((((((w1.setCell ⟨K, 0, none⟩ (.int .i64 no)).setCell ⟨K, 1, none⟩ (.int .i64 ph)).setCell ⟨K, 2, none⟩ (.int .i64 now)).setCell ⟨K, 3, none⟩ (.int .i64 pt)).setCell ⟨K, 4, none⟩ (.bool want)).setCell ⟨K, 5, none⟩ (.int .i64 timer)).setCell ⟨K, 6, none⟩ (.int .i64 pat)).setCell ⟨K, 7, none⟩ (.int .i64 tries)).setCell ⟨K, 8, none⟩ (.int .i64 lim)).setCell ⟨K, 9, none⟩ (.bool gave)) := ⟨_, rfl⟩
  rw [← hw2] at HP ⊢
  clear hw2 c0 c1 c2 c3 c4 c5 c6 c7 c8 c9 k0 k1 k2 k3 k4 k5 k6 k7 k8 k9 e0 e1 e2 e3 e4 e5 e6 e7 e8 e9
  have HT := hide' (HW1.out.turn HP.out.2 (m := ⟨no, ph, now, pt, want, timer, pat, tries, lim, gave⟩) (l := W.l) (s := W.s) (pv' := pv) HP.out.1 (own_keep HW1.out.pts (but_keep HP.out.2 HW1.out.cell) (by decide)))
  have HL2 := hide' (own_keep HL1.out (but_keep HP.out.2 HW1.out.cell) (by decide))
  have HB2 : Hid (Bl B w w2) := HBB.out.trans HT.out.2
  have HW2 := hide' HT.out.1
  have HC2 : Hid (w2.heap[K]? = some (.cells #[.int .i64 no, .int .i64 ph, .int .i64 now, .int .i64 pt, .bool want, .int .i64 timer, .int .i64 pat, .int .i64 tries, .int .i64 lim, .bool gave, pv, .int .i64 W.s.last, .int .i64 W.s.armed, .int .i64 W.s.point, .bool W.s.want, .int .i64 W.s.left, .int .i64 W.s.pat, dv, uv, ov, av, cv] 52 (0, 0))) := HT.out.1.cell
  clear HT HP HW1 HL1 HBB HC1 HW HL
  have k17 : w2.cell? ⟨K, 17, none⟩ = some dv := (cells_at HC2.out 17).trans rfl
  have e17 : w2.frozen? ⟨K, 17, none⟩ = false := frozen_no HC2.out _
  have hs2 : B ≤ w2.heap.size := Nat.le_trans HW2.out.bk (Nat.le_of_lt (lt_heap HC2.out))
  obtain ⟨da, dc, hde⟩ := own_slice HW2.out.dn
  have hde2 : dv = .slice da W.down.length dc := hde
  subst hde2
  obtain ⟨oa, oc, hoe⟩ := own_slice HW2.out.od
  have hoe2 : ov = .slice oa W.old.length oc := hoe
  subst hoe2
  obtain ⟨la, lc, hle⟩ := own_slice HL2.out
  subst hle
  have HDN : Hid (w2.ownsRow B 39 4 (.slice da W.down.length dc) W.down.length (msgs W.down)) := HW2.out.dn
  clear hde hoe
  go_wp2_with (at_builtin; refine wpList_append_anyAt _ rfl _ _ 33 rfl B 39 i39 _ 4 32 Try.underlying33 hi39 h390 h391 h392 rfl (by decide) _ _ _ rfl HDN.out _ _ _ rfl (rowAt_of_own HL2.out) (msgs_one _) (by unfold maxLen; omega) (by omega) hs2 ?_; intro v3 w3 ho3 hg3 ha3; refine Still.go ?_)
  unfold Still
  have HT3 := hide' (WAt.dn' HW2.out (d := W.down ++ o) (by rw [msgs_app]; exact ho3) (by rw [List.length_append]) hg3 ha3)
  have HL3 : Hid (w3.ownsRow 0 39 4 (.slice la o.length lc) o.length (msgs o)) := own_other HL2.out (fun k ek => hg3.block k (own_lt HL2.out ek) (fun e => HD.out k ek e.symm))
  obtain ⟨va, vc, hve⟩ := own_slice ho3
  subst hve
  have k17' : w3.cell? ⟨K, 17, none⟩ = some (.slice da W.down.length dc) := (cells_at ((KeepE.grown HDN.out hg3 K _ 52 (0, 0) HC2.out (by decide)).trans HC2.out) 17).trans rfl
  have e17' : w3.frozen? ⟨K, 17, none⟩ = false := frozen_no ((KeepE.grown HDN.out hg3 K _ 52 (0, 0) HC2.out (by decide)).trans HC2.out) _
  have HC3 : Hid (w3.heap[K]? = some (.cells #[.int .i64 no, .int .i64 ph, .int .i64 now, .int .i64 pt, .bool want, .int .i64 timer, .int .i64 pat, .int .i64 tries, .int .i64 lim, .bool gave, pv, .int .i64 W.s.last, .int .i64 W.s.armed, .int .i64 W.s.point, .bool W.s.want, .int .i64 W.s.left, .int .i64 W.s.pat, .slice da W.down.length dc, uv, .slice oa W.old.length oc, av, cv] 52 (0, 0))) := (KeepE.grown HDN.out hg3 K _ 52 (0, 0) HC2.out (by decide)).trans HC2.out
  clear ho3 hg3 ha3 k17 e17 HDN HC2 HL2 HW2 hs2
  go_upto_region 3 with fail
  obtain ⟨w4, hw4⟩ : ∃ x, x = w3.setCell ⟨K, 17, none⟩ (.slice va (W.down.length + o.length) vc) := ⟨_, rfl⟩
  rw [← hw4] at HT3 ⊢
  have HL4 : Hid (w4.ownsRow 0 39 4 (.slice la o.length lc) o.length (msgs o)) := by rw [hw4]; exact own_keep HL3.out (keep_set HC3.out 17 _) (by decide)
  have HB4 : Hid (Bl B w w4) := HB2.out.trans HT3.out.2
  have HW4 := hide' HT3.out.1
  clear hw4 HT3 HL3 HC3 HB2 k17' e17'
  have HC4 : Hid (w4.heap[K]? = some (.cells #[.int .i64 no, .int .i64 ph, .int .i64 now, .int .i64 pt, .bool want, .int .i64 timer, .int .i64 pat, .int .i64 tries, .int .i64 lim, .bool gave, pv, .int .i64 W.s.last, .int .i64 W.s.armed, .int .i64 W.s.point, .bool W.s.want, .int .i64 W.s.left, .int .i64 W.s.pat, .slice va (W.down.length + o.length) vc, uv, .slice oa W.old.length oc, av, cv] 52 (0, 0))) := HW4.out.cell
  have k19 : w4.cell? ⟨K, 19, none⟩ = some (.slice oa W.old.length oc) := (cells_at HC4.out 19).trans rfl
  have e19 : w4.frozen? ⟨K, 19, none⟩ = false := frozen_no HC4.out _
  have hs4 : B ≤ w4.heap.size := Nat.le_trans HW4.out.bk (Nat.le_of_lt (lt_heap HC4.out))
  have HON : Hid (w4.ownsRow B 39 4 (.slice oa W.old.length oc) W.old.length (msgs W.old)) := HW4.out.od
  go_wp2_with (at_builtin; refine wpList_append_anyAt _ rfl _ _ 33 rfl B 39 i39 _ 4 32 Try.underlying33 hi39 h390 h391 h392 rfl (by decide) _ _ _ rfl HON.out _ _ _ rfl (rowAt_of_own HL4.out) (msgs_one _) (by unfold maxLen; omega) (by omega) hs4 ?_; intro v5 w5 ho5 hg5 ha5; refine Still.go ?_)
  unfold Still
  have HT5 := hide' (WAt.od' HW4.out (d := W.old ++ o) (by rw [msgs_app]; exact ho5) (by rw [List.length_append]) hg5 ha5)
  obtain ⟨va5, vc5, hve5⟩ := own_slice ho5
  subst hve5
  have HC5 : Hid (w5.heap[K]? = some (.cells #[.int .i64 no, .int .i64 ph, .int .i64 now, .int .i64 pt, .bool want, .int .i64 timer, .int .i64 pat, .int .i64 tries, .int .i64 lim, .bool gave, pv, .int .i64 W.s.last, .int .i64 W.s.armed, .int .i64 W.s.point, .bool W.s.want, .int .i64 W.s.left, .int .i64 W.s.pat, .slice va (W.down.length + o.length) vc, uv, .slice oa W.old.length oc, av, cv] 52 (0, 0))) := (KeepE.grown HON.out hg5 K _ 52 (0, 0) HC4.out (by decide)).trans HC4.out
  have k19' : w5.cell? ⟨K, 19, none⟩ = some (.slice oa W.old.length oc) := (cells_at HC5.out 19).trans rfl
  have e19' : w5.frozen? ⟨K, 19, none⟩ = false := frozen_no HC5.out _
  have HFI : Hid ((∃ dv' ov', WAt (w5.setCell ⟨K, 19, none⟩ (.slice va5 (W.old.length + o.length) vc5)) B K (W.sent ⟨no, ph, now, pt, want, timer, pat, tries, lim, gave⟩ o) pv dv' uv ov' av cv) ∧ Bl B w (w5.setCell ⟨K, 19, none⟩ (.slice va5 (W.old.length + o.length) vc5))) := ⟨⟨_, _, HT5.out.1⟩, HB4.out.trans HT5.out.2⟩
  clear ho5 hg5 ha5 k19 e19 HON HC4 HL4 HW4 hs4 HT5 HB4
  go_wp2
  refine bodyPost_end (results_none rfl _ _ _) rfl ?_
  exact ⟨rfl, HFI.out⟩
end Go.Proofs.Ytjhmendiefojoam
