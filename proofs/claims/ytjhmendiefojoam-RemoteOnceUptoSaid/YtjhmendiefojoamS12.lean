/- What a station does with an Operate that is carried out. -/
import Derived.Test.YtjhmendiefojoamYc
import Derived.Test.YtjhmendiefojoamS11
namespace Go.Proofs.Ytjhmendiefojoam
open Go.RowKit Go.Shelf

theorem code_letter {P : Program} {c : Code} {Q : Exit → Act → World → Prop} {a : Act} {w : World} (R : World → Prop) (h : R w) (k : ∀ w', R w' → Code.wp P c Q a w') : Code.wp P c Q a w := k w h
set_option maxRecDepth 100000 in
set_option maxHeartbeats 4000000 in
theorem operate_6 (S : StM) (m : MsM) (l : List Bool) (B K n c : Nat) (a : Option Addr) (w : World) (hK : w.heap[K]? = some (.cells (S.cells (.slice a n c)) 60 (0, 0))) (ho : w.ownsRow B 4 1 (.slice a n c) n (l.map Value.bool)) (hB : B ≤ K) (r : Int) (T : StM) (l1 : List Bool) (hR : (S.last < m.no ∧ m.no = S.armed ∧ m.pt = S.point ∧ m.wt = S.want ∧ (0 ≤ m.pt ∧ m.pt < n) ∧ r = 4 ∧ T = ⟨m.no, -1, 0, false, 0, S.pat⟩ ∧ l1 = l.set m.pt.toNat m.wt)) : Calls Try.prog 57 #[.pointer (some ⟨K, 0, none⟩), .agg m.cells] w (ActO B K n c a l1 T r w) := by
  have HBS : Hid (B ≤ w.heap.size) := by have := lt_heap hK; show _ ≤ _; omega
  have HO := hide' ho
  unfold ActO
  obtain ⟨last, armed, point, want, left, pat⟩ := S
  obtain ⟨kind, no, pt, wt⟩ := m
  unfold StM.cells at hK
  unfold MsM.cells
  simp only at hR ⊢
  have HR := hide' hR
  clear ho hR
  go_enter Try.func57, Try.ntmps57
  go_upto_region 1 with fail
  have hqY := alloc_new w (.cells #[.int .i64 kind, .int .i64 no, .int .i64 pt, .bool wt] 39)
  have hb1 := below_al w (.cells #[.int .i64 kind, .int .i64 no, .int .i64 pt, .bool wt] 39)
  obtain ⟨w1, hw1⟩ : ∃ x, x = (w.alloc (.cells #[.int .i64 kind, .int .i64 no, .int .i64 pt, .bool wt] 39)) := ⟨_, rfl⟩
  rw [← hw1] at hqY hb1 ⊢
  obtain ⟨Y, hnY⟩ : ∃ x, x = w.heap.size := ⟨_, rfl⟩
  have HNE : Hid (w.heap.size ≤ Y) := by show _ ≤ _; omega
  rw [← hnY] at hqY
  rw [show (Value.pointer (some { block := w.heap.size, off := 0 })) = Value.pointer (some { block := Y, off := 0 }) by rw [hnY]]
  have HQY := hide' hqY
  have HB1 := hide' hb1
  clear hqY hb1 hw1 hnY
  have HK1 : Hid (w1.heap[K]? = some (.cells #[.slice a n c, .int .i64 last, .int .i64 armed, .int .i64 point, .bool want, .int .i64 left, .int .i64 pat] 60 (0, 0))) := (HB1.out.block K (lt_heap hK)).trans hK
  have HO1 := hide' (own_below HO.out HB1.out (Nat.le_refl _))
  have HB1' := hide' (HB1.out.mono HBS.out)
  have HB1s := hide' HB1.out.size
  obtain ⟨m0, m1, m2, m3⟩ := cellsP4 HQY.out
  obtain ⟨c0, c1, c2, c3, c4⟩ := cellsP5 HK1.out
  clear hK HO HB1
  obtain ⟨h1, rfl, rfl, rfl, h5, rfl, rfl, rfl⟩ := HR.out
  clear HR
  have hne : no ≠ last := by omega
  have hnl : ¬ no < last := by omega
  have hpt : ∃ p : Nat, pt = p ∧ p < n := ⟨pt.toNat, by omega, by omega⟩
  obtain ⟨p, rfl, hp⟩ := hpt
  obtain ⟨G, rfl, hG⟩ := own_some HO1.out (by omega)
  have HGG := hide' hG
  have hbw : ((wt != wt) = false) := by cases wt <;> rfl
  obtain ⟨r1, r2⟩ := own_bool HO1.out hp
  have HGK : Hid (G ≠ K) := by
    obtain ⟨cur, hcur⟩ := own_blk HO1.out
    intro e
    subst e
    rw [HK1.out] at hcur
    cases hcur
  have HGY : Hid (G ≠ Y) := by
    obtain ⟨cur, hcur⟩ := own_blk HO1.out
    intro e
    subst e
    rw [HQY.out] at hcur
    cases hcur
  go_wp2_with fail
  go_quiet (fail)
  go_wp2_with fail
  go_quiet (fail)
  go_wp2_with fail
  go_quiet (fail)
  go_upto_region 7 with fail
  refine wp_region_tail (fun W => W.cell? ⟨Y, 2, none⟩ = some (.int .i64 p) ∧ W.cell? ⟨Y, 3, none⟩ = some (.bool wt) ∧ W.cell? ⟨K, 0, none⟩ = some (.slice (some ⟨G, 0, none⟩) n c)) 10 (by kernel_rfl) ?_
  refine wpAnyD_takeAt 0 (some 52) (v := ?_) rfl (by kernel_rfl) (by kernel_rfl) (by kernel_rfl) (by kernel_rfl) (by kernel_rfl) (fun _ _ _ h => h) (by exact ⟨m2, m3, c0⟩) (fun o hop => ?_) ?_
  rotate_left
  · injection hop with hop
    subst hop
    refine ⟨rfl, fun W hW => ?_⟩
    obtain ⟨s0, s1, s2⟩ := hW
    go_simp
    try rfl
  try simp only [Act.put, List.setIfInBounds_toArray, List.set_cons_zero, List.set_cons_succ]
  refine wpAnyD_takeAt 1 (some 53) (v := ?_) rfl (by kernel_rfl) (by kernel_rfl) (by kernel_rfl) (by kernel_rfl) (by kernel_rfl) (fun _ _ _ h => h) (by exact ⟨m2, m3, c0⟩) (fun o hop => ?_) ?_
  rotate_left
  · injection hop with hop
    subst hop
    refine ⟨rfl, fun W hW => ?_⟩
    obtain ⟨s0, s1, s2⟩ := hW
    go_simp
    try rfl
  try simp only [Act.put, List.setIfInBounds_toArray, List.set_cons_zero, List.set_cons_succ]
  refine wpAnyD_takeAt 2 (some 54) (v := ?_) rfl (by kernel_rfl) (by kernel_rfl) (by kernel_rfl) (by kernel_rfl) (by kernel_rfl) (fun _ _ _ h => h) (by exact ⟨m2, m3, c0⟩) (fun o hop => ?_) ?_
  rotate_left
  · injection hop with hop
    subst hop
    refine ⟨rfl, fun W hW => ?_⟩
    obtain ⟨s0, s1, s2⟩ := hW
    go_simp
    try rfl
  try simp only [Act.put, List.setIfInBounds_toArray, List.set_cons_zero, List.set_cons_succ]
  refine wpAnyD_takeAt 3 (some 55) (v := ?_) rfl (by kernel_rfl) (by kernel_rfl) (by kernel_rfl) (by kernel_rfl) (by kernel_rfl) (fun _ _ _ h => h) (by exact ⟨m2, m3, c0⟩) (fun o hop => ?_) ?_
  rotate_left
  · injection hop with hop
    subst hop
    refine ⟨rfl, fun W hW => ?_⟩
    obtain ⟨s0, s1, s2⟩ := hW
    go_simp
    try rfl
  try simp only [Act.put, List.setIfInBounds_toArray, List.set_cons_zero, List.set_cons_succ]
  refine wpAnyD_takeAt 4 (some 56) (v := ?_) rfl (by kernel_rfl) (by kernel_rfl) (by kernel_rfl) (by kernel_rfl) (by kernel_rfl) (fun _ _ _ h => h) (by exact ⟨m2, m3, c0⟩) (fun o hop => ?_) ?_
  rotate_left
  · injection hop with hop
    subst hop
    refine ⟨rfl, fun W hW => ?_⟩
    obtain ⟨s0, s1, s2⟩ := hW
    go_simp
    try rfl
  try simp only [Act.put, List.setIfInBounds_toArray, List.set_cons_zero, List.set_cons_succ]
  refine wpAnyD_takeAt 5 (some 57) (v := ?_) rfl (by kernel_rfl) (by kernel_rfl) (by kernel_rfl) (by kernel_rfl) (by kernel_rfl) (fun _ _ _ h => h) (by exact ⟨m2, m3, c0⟩) (fun o hop => ?_) ?_
  rotate_left
  · injection hop with hop
    subst hop
    refine ⟨rfl, fun W hW => ?_⟩
    obtain ⟨s0, s1, s2⟩ := hW
    go_simp
    try rfl
  try simp only [Act.put, List.setIfInBounds_toArray, List.set_cons_zero, List.set_cons_succ]
  refine wpAnyD_takeAt 6 (some 58) (v := ?_) rfl (by kernel_rfl) (by kernel_rfl) (by kernel_rfl) (by kernel_rfl) (by kernel_rfl) (fun _ _ _ h => h) (by exact ⟨m2, m3, c0⟩) (fun o hop => ?_) ?_
  rotate_left
  · injection hop with hop
    subst hop
    refine ⟨rfl, fun W hW => ?_⟩
    obtain ⟨s0, s1, s2⟩ := hW
    go_simp
    try rfl
  try simp only [Act.put, List.setIfInBounds_toArray, List.set_cons_zero, List.set_cons_succ]
  refine wpAnyD_takeAt 7 (some 59) (v := ?_) rfl (by kernel_rfl) (by kernel_rfl) (by kernel_rfl) (by kernel_rfl) (by kernel_rfl) (fun _ _ _ h => h) (by exact ⟨m2, m3, c0⟩) (fun o hop => ?_) ?_
  rotate_left
  · injection hop with hop
    subst hop
    refine ⟨rfl, fun W hW => ?_⟩
    obtain ⟨s0, s1, s2⟩ := hW
    go_simp
    try rfl
  try simp only [Act.put, List.setIfInBounds_toArray, List.set_cons_zero, List.set_cons_succ]
  refine wpAnyD_takeAt 8 (some 60) (v := ?_) rfl (by kernel_rfl) (by kernel_rfl) (by kernel_rfl) (by kernel_rfl) (by kernel_rfl) (fun _ _ _ h => h) (by exact ⟨m2, m3, c0⟩) (fun o hop => ?_) ?_
  rotate_left
  · injection hop with hop
    subst hop
    refine ⟨rfl, fun W hW => ?_⟩
    obtain ⟨s0, s1, s2⟩ := hW
    go_simp
    try rfl
  try simp only [Act.put, List.setIfInBounds_toArray, List.set_cons_zero, List.set_cons_succ]
  refine wpAnyT_one (i := 9) (by kernel_rfl) rfl rfl (fun K' hK => ?_)
  go_simp
  refine hK.out _ _ (fun _ => by exact ⟨m2, m3, c0⟩) ?_
  clear hK K'
  try simp only [Act.put, List.setIfInBounds_toArray, List.set_cons_zero, List.set_cons_succ]
  refine wpAnyT_one (i := 10) (by kernel_rfl) rfl rfl (fun K' hK => ?_)
  go_simp
  refine hK.out _ _ (fun h => absurd rfl h) ?_
  clear hK K'
  try simp only [Act.put, List.setIfInBounds_toArray, List.set_cons_zero, List.set_cons_succ]
  refine wpAnyT_done (by kernel_rfl) ?_ _
  go_upto_region 8 with fail


  refine code_letter (fun W => W.heap[K]? = some (.cells #[.slice (some ⟨G, 0, none⟩) n c, .int .i64 last, .int .i64 no, .int .i64 p, .bool wt, .int .i64 left, .int .i64 pat] 60 (0, 0)) ∧ W.heap[Y]? = some (.cells #[.int .i64 kind, .int .i64 no, .int .i64 p, .bool wt] 39 (0, 0)) ∧ W.ownsRow B 4 1 (.slice (some ⟨G, 0, none⟩) n c) n ((l.set p wt).map Value.bool) ∧ Below B w W ∧ B ≤ W.heap.size) ?_ ?_
  · refine ⟨(Below.heap_setCell _ _ _ K HGK.out.symm).trans HK1.out, (Below.heap_setCell _ _ _ Y HGY.out.symm).trans HQY.out, own_bool_set (own_drewN HO1.out _) p wt, (below_drewN HB1'.out _).setCell (p := ⟨G, p, none⟩) HGG.out _, ?_⟩
    exact Nat.le_trans (Nat.le_trans HBS.out HB1s.out) (Below.setCell (p := ⟨G, p, none⟩) (Below.refl 0 _) (Nat.zero_le _) _).size
  intro w3 hw3
  have HK3 := hide' hw3.1
  have HY3 := hide' hw3.2.1
  have HO3 := hide' hw3.2.2.1
  have HB3 := hide' hw3.2.2.2
  clear hw3 HK1 HQY HO1 HB1' HGG r1 r2 m0 m1 m2 m3 c0 c1 c2 c3 c4 HB1s HBS
  have y1 : w3.cell? ⟨Y, 1, none⟩ = some (.int .i64 no) := (cells_at HY3.out 1).trans rfl
  have k1 : w3.cell? ⟨K, 1, none⟩ = some (.int .i64 last) := (cells_at HK3.out 1).trans rfl
  have f1 : w3.frozen? ⟨K, 1, none⟩ = false := frozen_no HK3.out _
  have HL := hide' (last1 (S := ⟨last, no, p, wt, left, pat⟩) (v := (.slice (some ⟨G, 0, none⟩) n c)) HK3.out no)
  have HO4 := hide' (own_keep HO3.out (but_keep HL.out.2 HK3.out) (by decide))
  have HB4 := hide' (HB3.out.1.trans (HL.out.2.below hB HB3.out.2))
  have HB4s := hide' (Nat.le_trans HB3.out.2 HL.out.2.size)
  go_upto_region 9 with fail
  obtain ⟨w4, hw4⟩ : ∃ x, x = w3.setCell ⟨K, 1, none⟩ (.int .i64 no) := ⟨_, rfl⟩
  rw [← hw4] at HL HO4 HB4 HB4s ⊢
  have HD := hide' (disarm_any ⟨no, no, p, wt, left, pat⟩ K (.slice (some ⟨G, 0, none⟩) n c) w4 HL.out.1)
  have HK4 := hide' HL.out.1
  clear hw4 HL y1 k1 f1 HK3 HY3 HO3 HB3
  go_wp2_with fail
  refine HD.out.mono ?_
  rintro e w5 ⟨rfl, h5k, h5b⟩
  have HF : Hid (w5.heap[K]? = some (.cells ((⟨no, -1, 0, false, 0, pat⟩ : StM).cells (.slice (some ⟨G, 0, none⟩) n c)) 60 (0, 0)) ∧ w5.ownsRow B 4 1 (.slice (some ⟨G, 0, none⟩) n c) n ((l.set (p : Int).toNat wt).map Value.bool) ∧ Below B w w5) := ⟨h5k, own_keep HO4.out (but_keep h5b HK4.out) (by decide), HB4.out.trans (h5b.below hB HB4s.out)⟩
  clear h5k h5b HD HO4 HB4
  go_wp2
  go_ret
  exact ⟨rfl, HF.out⟩
theorem operate_any (S : StM) (m : MsM) (l : List Bool) (B K n c : Nat) (a : Option Addr) (w : World) (hK : w.heap[K]? = some (.cells (S.cells (.slice a n c)) 60 (0, 0))) (ho : w.ownsRow B 4 1 (.slice a n c) n (l.map Value.bool)) (hB : B ≤ K) (r : Int) (T : StM) (l1 : List Bool) (hR : OperR l n S m l1 r T) : Calls Try.prog 57 #[.pointer (some ⟨K, 0, none⟩), .agg m.cells] w (ActO B K n c a l1 T r w) := by
  rcases hR with h | h | ⟨h1, h2, h3⟩ | h
  · exact operate_1 S m l B K n c a w hK ho hB r T l1 h
  · exact operate_2 S m l B K n c a w hK ho hB r T l1 h
  · by_cases e1 : m.no = S.armed
    · by_cases e2 : m.pt = S.point
      · exact operate_5 S m l B K n c a w hK ho hB r T l1 ⟨h1, e1, e2, by rcases h2 with h | h | h; exact absurd e1 h; exact absurd e2 h; exact h, h3⟩
      · exact operate_4 S m l B K n c a w hK ho hB r T l1 ⟨h1, e1, e2, h3⟩
    · exact operate_3 S m l B K n c a w hK ho hB r T l1 ⟨h1, e1, h3⟩
  · exact operate_6 S m l B K n c a w hK ho hB r T l1 h
end Go.Proofs.Ytjhmendiefojoam
