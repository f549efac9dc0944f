/- What a station does with an Operate; what it answers. -/
import Derived.Test.YtjhmendiefojoamYc
import Derived.Test.YtjhmendiefojoamS10
namespace Go.Proofs.Ytjhmendiefojoam
open Go.RowKit Go.Shelf

theorem own_bool {w : World} {B G n cg : Nat} {l : List Bool} (h : w.ownsRow B 4 1 (.slice (some ⟨G, 0, none⟩) n cg) n (l.map Value.bool)) {p : Nat} (hp : p < n) : w.cell? ⟨G, p, none⟩ = some (.bool (l.getD p false)) ∧ w.frozen? ⟨G, p, none⟩ = false := by
  have hl : l.length = n := by have := h.1; simp at this; omega
  refine own_cell h ?_
  rw [List.getElem?_map, List.getElem?_eq_getElem (by omega), List.getD_eq_getElem?_getD, List.getElem?_eq_getElem (by omega)]
  rfl
theorem own_bool_set {w : World} {B G n cg : Nat} {l : List Bool} (h : w.ownsRow B 4 1 (.slice (some ⟨G, 0, none⟩) n cg) n (l.map Value.bool)) (p : Nat) (x : Bool) : (w.setCell ⟨G, p, none⟩ (.bool x)).ownsRow B 4 1 (.slice (some ⟨G, 0, none⟩) n cg) n ((l.set p x).map Value.bool) := by
  have hl : l.length = n := by have := h.1; simp at this; omega
  rcases h.2 with ⟨h1, _⟩ | ⟨g, cap, cur, h1, h0, h2, h3, h3', h4, h5⟩
  · cases h1
  · cases h1
    refine ⟨by rw [List.length_map, List.length_set]; omega, .inr ⟨G, cg, _, rfl, h0, set_any h2 p _, h3, h3', by simpa using h4, ?_⟩⟩
    rw [Array.toList_setIfInBounds, List.take_set, h5, List.map_set]
theorem own_some {w : World} {B n c e sz : Nat} {a : Option Addr} {xs : List Value} (h : w.ownsRow B e sz (.slice a n c) n xs) (hn : 0 < n) : ∃ G, a = some ⟨G, 0, none⟩ ∧ B ≤ G := by
  rcases h.2 with ⟨h1, h2⟩ | ⟨g, cap, cur, h1, h0, _⟩
  · cases h1; omega
  · cases h1; exact ⟨_, rfl, h0⟩
theorem last1 {w : World} {K e : Nat} {S : StM} {v : Value} (h : w.heap[K]? = some (.cells (S.cells v) e (0, 0))) (x : Int) : (w.setCell ⟨K, 1, none⟩ (.int .i64 x)).heap[K]? = some (.cells ((⟨x, S.armed, S.point, S.want, S.left, S.pat⟩ : StM).cells v) e (0, 0)) ∧ But K w (w.setCell ⟨K, 1, none⟩ (.int .i64 x)) := ⟨(set_any h 1 _).trans (by unfold StM.cells; simp only [List.setIfInBounds_toArray, List.set_cons_zero, List.set_cons_succ]), But.set (But.refl K w) _ _⟩
theorem fin_drew {w w1 W : World} {B K e n : Nat} {v : Value} {cs : Array Value} {xs : List Value} (hB : Below B w w1) (ho : w1.ownsRow B 4 1 v n xs) (hK : w1.heap[K]? = some (.cells cs e (0, 0))) (h1 : W.heap = w1.heap) (h2 : W.os = w1.os) (h3 : W.tape = w1.tape) (h4 : W.output = w1.output) : W.heap[K]? = some (.cells cs e (0, 0)) ∧ W.ownsRow B 4 1 v n xs ∧ Below B w W := by
  refine ⟨by rw [h1]; exact hK, ?_, ⟨h2.trans hB.os, h3.trans hB.tape, h4.trans hB.output, by rw [h1]; exact hB.size, fun k hk => by rw [h1]; exact hB.block k hk⟩⟩
  exact own_other ho (fun k _ => by rw [h1])
set_option maxRecDepth 100000 in
set_option maxHeartbeats 4000000 in
theorem operate_1 (S : StM) (m : MsM) (l : List Bool) (B K n c : Nat) (a : Option Addr) (w : World) (hK : w.heap[K]? = some (.cells (S.cells (.slice a n c)) 60 (0, 0))) (ho : w.ownsRow B 4 1 (.slice a n c) n (l.map Value.bool)) (hB : B ≤ K) (r : Int) (T : StM) (l1 : List Bool) (hR : (m.no = S.last ∧ r = 4 ∧ T = S ∧ l1 = l)) : Calls Try.prog 57 #[.pointer (some ⟨K, 0, none⟩), .agg m.cells] w (ActO B K n c a l1 T r w) := by
  have HBS : Hid (B ≤ w.heap.size) := by have := lt_heap hK; show _ ≤ _; omega
  have HO := hide' ho
  unfold ActO
  obtain ⟨last, armed, point, want, left, pat⟩ := S
  obtain ⟨kind, no, pt, wt⟩ := m
  unfold StM.cells at hK
  unfold MsM.cells
  simp only at hR ⊢
  have HR := hide' hR
  clear ho hR
  go_enter Try.func57, Try.ntmps57
  go_upto_region 1 with fail
  have hqY := alloc_new w (.cells #[.int .i64 kind, .int .i64 no, .int .i64 pt, .bool wt] 39)
  have hb1 := below_al w (.cells #[.int .i64 kind, .int .i64 no, .int .i64 pt, .bool wt] 39)
  obtain ⟨w1, hw1⟩ : ∃ x, x = (w.alloc (.cells #[.int .i64 kind, .int .i64 no, .int .i64 pt, .bool wt] 39)) := ⟨_, rfl⟩
  rw [← hw1] at hqY hb1 ⊢
  obtain ⟨Y, hnY⟩ : ∃ x, x = w.heap.size := ⟨_, rfl⟩
  have HNE : Hid (w.heap.size ≤ Y) := by show _ ≤ _; omega
  rw [← hnY] at hqY
  rw [show (Value.pointer (some { block := w.heap.size, off := 0 })) = Value.pointer (some { block := Y, off := 0 }) by rw [hnY]]
  have HQY := hide' hqY
  have HB1 := hide' hb1
  clear hqY hb1 hw1 hnY
  have HK1 : Hid (w1.heap[K]? = some (.cells #[.slice a n c, .int .i64 last, .int .i64 armed, .int .i64 point, .bool want, .int .i64 left, .int .i64 pat] 60 (0, 0))) := (HB1.out.block K (lt_heap hK)).trans hK
  have HO1 := hide' (own_below HO.out HB1.out (Nat.le_refl _))
  have HB1' := hide' (HB1.out.mono HBS.out)
  have HB1s := hide' HB1.out.size
  obtain ⟨m0, m1, m2, m3⟩ := cellsP4 HQY.out
  obtain ⟨c0, c1, c2, c3, c4⟩ := cellsP5 HK1.out
  clear hK HO HB1
  obtain ⟨h1, rfl, rfl, rfl⟩ := HR.out
  clear HR
  go_wp2_with fail
  go_quiet (fail)
  go_wp2
  go_ret
  exact ⟨rfl, fin_drew HB1'.out HO1.out HK1.out rfl rfl rfl rfl⟩
set_option maxRecDepth 100000 in
set_option maxHeartbeats 4000000 in
theorem operate_2 (S : StM) (m : MsM) (l : List Bool) (B K n c : Nat) (a : Option Addr) (w : World) (hK : w.heap[K]? = some (.cells (S.cells (.slice a n c)) 60 (0, 0))) (ho : w.ownsRow B 4 1 (.slice a n c) n (l.map Value.bool)) (hB : B ≤ K) (r : Int) (T : StM) (l1 : List Bool) (hR : (m.no < S.last ∧ r = 0 ∧ T = S ∧ l1 = l)) : Calls Try.prog 57 #[.pointer (some ⟨K, 0, none⟩), .agg m.cells] w (ActO B K n c a l1 T r w) := by
  have HBS : Hid (B ≤ w.heap.size) := by have := lt_heap hK; show _ ≤ _; omega
  have HO := hide' ho
  unfold ActO
  obtain ⟨last, armed, point, want, left, pat⟩ := S
  obtain ⟨kind, no, pt, wt⟩ := m
  unfold StM.cells at hK
  unfold MsM.cells
  simp only at hR ⊢
  have HR := hide' hR
  clear ho hR
  go_enter Try.func57, Try.ntmps57
  go_upto_region 1 with fail
  have hqY := alloc_new w (.cells #[.int .i64 kind, .int .i64 no, .int .i64 pt, .bool wt] 39)
  have hb1 := below_al w (.cells #[.int .i64 kind, .int .i64 no, .int .i64 pt, .bool wt] 39)
  obtain ⟨w1, hw1⟩ : ∃ x, x = (w.alloc (.cells #[.int .i64 kind, .int .i64 no, .int .i64 pt, .bool wt] 39)) := ⟨_, rfl⟩
  rw [← hw1] at hqY hb1 ⊢
  obtain ⟨Y, hnY⟩ : ∃ x, x = w.heap.size := ⟨_, rfl⟩
  have HNE : Hid (w.heap.size ≤ Y) := by show _ ≤ _; omega
  rw [← hnY] at hqY
  rw [show (Value.pointer (some { block := w.heap.size, off := 0 })) = Value.pointer (some { block := Y, off := 0 }) by rw [hnY]]
  have HQY := hide' hqY
  have HB1 := hide' hb1
  clear hqY hb1 hw1 hnY
  have HK1 : Hid (w1.heap[K]? = some (.cells #[.slice a n c, .int .i64 last, .int .i64 armed, .int .i64 point, .bool want, .int .i64 left, .int .i64 pat] 60 (0, 0))) := (HB1.out.block K (lt_heap hK)).trans hK
  have HO1 := hide' (own_below HO.out HB1.out (Nat.le_refl _))
  have HB1' := hide' (HB1.out.mono HBS.out)
  have HB1s := hide' HB1.out.size
  obtain ⟨m0, m1, m2, m3⟩ := cellsP4 HQY.out
  obtain ⟨c0, c1, c2, c3, c4⟩ := cellsP5 HK1.out
  clear hK HO HB1
  obtain ⟨h1, rfl, rfl, rfl⟩ := HR.out
  clear HR
  have hne : no ≠ last := by omega
  go_wp2_with fail
  go_quiet (fail)
  go_wp2_with fail
  go_quiet (fail)
  go_wp2
  go_ret
  exact ⟨rfl, fin_drew HB1'.out HO1.out HK1.out rfl rfl rfl rfl⟩
set_option maxRecDepth 100000 in
set_option maxHeartbeats 4000000 in
theorem operate_3 (S : StM) (m : MsM) (l : List Bool) (B K n c : Nat) (a : Option Addr) (w : World) (hK : w.heap[K]? = some (.cells (S.cells (.slice a n c)) 60 (0, 0))) (ho : w.ownsRow B 4 1 (.slice a n c) n (l.map Value.bool)) (hB : B ≤ K) (r : Int) (T : StM) (l1 : List Bool) (hR : S.last < m.no ∧ m.no ≠ S.armed ∧ r = 5 ∧ T = S ∧ l1 = l) : Calls Try.prog 57 #[.pointer (some ⟨K, 0, none⟩), .agg m.cells] w (ActO B K n c a l1 T r w) := by
  have HBS : Hid (B ≤ w.heap.size) := by have := lt_heap hK; show _ ≤ _; omega
  have HO := hide' ho
  unfold ActO
  obtain ⟨last, armed, point, want, left, pat⟩ := S
  obtain ⟨kind, no, pt, wt⟩ := m
  unfold StM.cells at hK
  unfold MsM.cells
  simp only at hR ⊢
  have HR := hide' hR
  clear ho hR
  go_enter Try.func57, Try.ntmps57
  go_upto_region 1 with fail
  have hqY := alloc_new w (.cells #[.int .i64 kind, .int .i64 no, .int .i64 pt, .bool wt] 39)
  have hb1 := below_al w (.cells #[.int .i64 kind, .int .i64 no, .int .i64 pt, .bool wt] 39)
  obtain ⟨w1, hw1⟩ : ∃ x, x = (w.alloc (.cells #[.int .i64 kind, .int .i64 no, .int .i64 pt, .bool wt] 39)) := ⟨_, rfl⟩
  rw [← hw1] at hqY hb1 ⊢
  obtain ⟨Y, hnY⟩ : ∃ x, x = w.heap.size := ⟨_, rfl⟩
  have HNE : Hid (w.heap.size ≤ Y) := by show _ ≤ _; omega
  rw [← hnY] at hqY
  rw [show (Value.pointer (some { block := w.heap.size, off := 0 })) = Value.pointer (some { block := Y, off := 0 }) by rw [hnY]]
  have HQY := hide' hqY
  have HB1 := hide' hb1
  clear hqY hb1 hw1 hnY
  have HK1 : Hid (w1.heap[K]? = some (.cells #[.slice a n c, .int .i64 last, .int .i64 armed, .int .i64 point, .bool want, .int .i64 left, .int .i64 pat] 60 (0, 0))) := (HB1.out.block K (lt_heap hK)).trans hK
  have HO1 := hide' (own_below HO.out HB1.out (Nat.le_refl _))
  have HB1' := hide' (HB1.out.mono HBS.out)
  have HB1s := hide' HB1.out.size
  obtain ⟨m0, m1, m2, m3⟩ := cellsP4 HQY.out
  obtain ⟨c0, c1, c2, c3, c4⟩ := cellsP5 HK1.out
  clear hK HO HB1
  obtain ⟨h1, h2, rfl, rfl, rfl⟩ := HR.out
  clear HR
  have hbq : (no != armed) = true := by simp [h2]
  have hne : no ≠ last := by omega
  have hnl : ¬ no < last := by omega
  go_wp2_with fail
  go_quiet (fail)
  go_wp2_with fail
  go_quiet (fail)
  go_wp2_with fail
  go_quiet (fail)
  go_wp2
  go_ret
  exact ⟨rfl, fin_drew HB1'.out HO1.out HK1.out rfl rfl rfl rfl⟩
set_option maxRecDepth 100000 in
set_option maxHeartbeats 4000000 in
theorem operate_4 (S : StM) (m : MsM) (l : List Bool) (B K n c : Nat) (a : Option Addr) (w : World) (hK : w.heap[K]? = some (.cells (S.cells (.slice a n c)) 60 (0, 0))) (ho : w.ownsRow B 4 1 (.slice a n c) n (l.map Value.bool)) (hB : B ≤ K) (r : Int) (T : StM) (l1 : List Bool) (hR : S.last < m.no ∧ m.no = S.armed ∧ m.pt ≠ S.point ∧ r = 5 ∧ T = S ∧ l1 = l) : Calls Try.prog 57 #[.pointer (some ⟨K, 0, none⟩), .agg m.cells] w (ActO B K n c a l1 T r w) := by
  have HBS : Hid (B ≤ w.heap.size) := by have := lt_heap hK; show _ ≤ _; omega
  have HO := hide' ho
  unfold ActO
  obtain ⟨last, armed, point, want, left, pat⟩ := S
  obtain ⟨kind, no, pt, wt⟩ := m
  unfold StM.cells at hK
  unfold MsM.cells
  simp only at hR ⊢
  have HR := hide' hR
  clear ho hR
  go_enter Try.func57, Try.ntmps57
  go_upto_region 1 with fail
  have hqY := alloc_new w (.cells #[.int .i64 kind, .int .i64 no, .int .i64 pt, .bool wt] 39)
  have hb1 := below_al w (.cells #[.int .i64 kind, .int .i64 no, .int .i64 pt, .bool wt] 39)
  obtain ⟨w1, hw1⟩ : ∃ x, x = (w.alloc (.cells #[.int .i64 kind, .int .i64 no, .int .i64 pt, .bool wt] 39)) := ⟨_, rfl⟩
  rw [← hw1] at hqY hb1 ⊢
  obtain ⟨Y, hnY⟩ : ∃ x, x = w.heap.size := ⟨_, rfl⟩
  have HNE : Hid (w.heap.size ≤ Y) := by show _ ≤ _; omega
  rw [← hnY] at hqY
  rw [show (Value.pointer (some { block := w.heap.size, off := 0 })) = Value.pointer (some { block := Y, off := 0 }) by rw [hnY]]
  have HQY := hide' hqY
  have HB1 := hide' hb1
  clear hqY hb1 hw1 hnY
  have HK1 : Hid (w1.heap[K]? = some (.cells #[.slice a n c, .int .i64 last, .int .i64 armed, .int .i64 point, .bool want, .int .i64 left, .int .i64 pat] 60 (0, 0))) := (HB1.out.block K (lt_heap hK)).trans hK
  have HO1 := hide' (own_below HO.out HB1.out (Nat.le_refl _))
  have HB1' := hide' (HB1.out.mono HBS.out)
  have HB1s := hide' HB1.out.size
  obtain ⟨m0, m1, m2, m3⟩ := cellsP4 HQY.out
  obtain ⟨c0, c1, c2, c3, c4⟩ := cellsP5 HK1.out
  clear hK HO HB1
  obtain ⟨h1, h2, h3, rfl, rfl, rfl⟩ := HR.out
  clear HR
  have hbq : (pt != point) = true := by simp [h3]
  have hne : no ≠ last := by omega
  have hnl : ¬ no < last := by omega
  go_wp2_with fail
  go_quiet (fail)
  go_wp2_with fail
  go_quiet (fail)
  go_wp2_with fail
  go_quiet (fail)
  go_wp2
  go_ret
  exact ⟨rfl, fin_drew HB1'.out HO1.out HK1.out rfl rfl rfl rfl⟩
set_option maxRecDepth 100000 in
set_option maxHeartbeats 4000000 in
theorem operate_5 (S : StM) (m : MsM) (l : List Bool) (B K n c : Nat) (a : Option Addr) (w : World) (hK : w.heap[K]? = some (.cells (S.cells (.slice a n c)) 60 (0, 0))) (ho : w.ownsRow B 4 1 (.slice a n c) n (l.map Value.bool)) (hB : B ≤ K) (r : Int) (T : StM) (l1 : List Bool) (hR : S.last < m.no ∧ m.no = S.armed ∧ m.pt = S.point ∧ m.wt ≠ S.want ∧ r = 5 ∧ T = S ∧ l1 = l) : Calls Try.prog 57 #[.pointer (some ⟨K, 0, none⟩), .agg m.cells] w (ActO B K n c a l1 T r w) := by
  have HBS : Hid (B ≤ w.heap.size) := by have := lt_heap hK; show _ ≤ _; omega
  have HO := hide' ho
  unfold ActO
  obtain ⟨last, armed, point, want, left, pat⟩ := S
  obtain ⟨kind, no, pt, wt⟩ := m
  unfold StM.cells at hK
  unfold MsM.cells
  simp only at hR ⊢
  have HR := hide' hR
  clear ho hR
  go_enter Try.func57, Try.ntmps57
  go_upto_region 1 with fail
  have hqY := alloc_new w (.cells #[.int .i64 kind, .int .i64 no, .int .i64 pt, .bool wt] 39)
  have hb1 := below_al w (.cells #[.int .i64 kind, .int .i64 no, .int .i64 pt, .bool wt] 39)
  obtain ⟨w1, hw1⟩ : ∃ x, x = (w.alloc (.cells #[.int .i64 kind, .int .i64 no, .int .i64 pt, .bool wt] 39)) := ⟨_, rfl⟩
  rw [← hw1] at hqY hb1 ⊢
  obtain ⟨Y, hnY⟩ : ∃ x, x = w.heap.size := ⟨_, rfl⟩
  have HNE : Hid (w.heap.size ≤ Y) := by show _ ≤ _; omega
  rw [← hnY] at hqY
  rw [show (Value.pointer (some { block := w.heap.size, off := 0 })) = Value.pointer (some { block := Y, off := 0 }) by rw [hnY]]
  have HQY := hide' hqY
  have HB1 := hide' hb1
  clear hqY hb1 hw1 hnY
  have HK1 : Hid (w1.heap[K]? = some (.cells #[.slice a n c, .int .i64 last, .int .i64 armed, .int .i64 point, .bool want, .int .i64 left, .int .i64 pat] 60 (0, 0))) := (HB1.out.block K (lt_heap hK)).trans hK
  have HO1 := hide' (own_below HO.out HB1.out (Nat.le_refl _))
  have HB1' := hide' (HB1.out.mono HBS.out)
  have HB1s := hide' HB1.out.size
  obtain ⟨m0, m1, m2, m3⟩ := cellsP4 HQY.out
  obtain ⟨c0, c1, c2, c3, c4⟩ := cellsP5 HK1.out
  clear hK HO HB1
  obtain ⟨h1, h2, h3, h4, rfl, rfl, rfl⟩ := HR.out
  clear HR
  have hne : no ≠ last := by omega
  have hnl : ¬ no < last := by omega
  cases wt <;> cases want
  · exact absurd rfl h4
  · go_wp2_with fail
    go_quiet (fail)
    go_wp2_with fail
    go_quiet (fail)
    go_wp2_with fail
    go_quiet (fail)
    go_wp2
    go_ret
    exact ⟨rfl, fin_drew HB1'.out HO1.out HK1.out rfl rfl rfl rfl⟩
  · go_wp2_with fail
    go_quiet (fail)
    go_wp2_with fail
    go_quiet (fail)
    go_wp2_with fail
    go_quiet (fail)
    go_wp2
    go_ret
    exact ⟨rfl, fin_drew HB1'.out HO1.out HK1.out rfl rfl rfl rfl⟩
  · exact absurd rfl h4
end Go.Proofs.Ytjhmendiefojoam
