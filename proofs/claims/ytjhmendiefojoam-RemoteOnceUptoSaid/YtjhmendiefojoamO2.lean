/- A master's own functions. -/
import Derived.Test.YtjhmendiefojoamYc
import Derived.Test.YtjhmendiefojoamO1
import Derived.Test.YtjhmendiefojoamS8
namespace Go.Proofs.Ytjhmendiefojoam
open Go.RowKit Go.Shelf

theorem cellM {w : World} {K e : Nat} {M : MaM} (h : w.heap[K]? = some (.cells M.cells e (0, 0))) : w.cell? ⟨K, 0, none⟩ = some (.int .i64 M.no) ∧ w.cell? ⟨K, 1, none⟩ = some (.int .i64 M.ph) ∧ w.cell? ⟨K, 2, none⟩ = some (.int .i64 M.now) ∧ w.cell? ⟨K, 3, none⟩ = some (.int .i64 M.pt) ∧ w.cell? ⟨K, 4, none⟩ = some (.bool M.want) ∧ w.cell? ⟨K, 5, none⟩ = some (.int .i64 M.timer) ∧ w.cell? ⟨K, 6, none⟩ = some (.int .i64 M.pat) ∧ w.cell? ⟨K, 7, none⟩ = some (.int .i64 M.tries) ∧ w.cell? ⟨K, 8, none⟩ = some (.int .i64 M.lim) ∧ w.cell? ⟨K, 9, none⟩ = some (.bool M.gave) :=
  ⟨(cells_at h 0).trans rfl, (cells_at h 1).trans rfl, (cells_at h 2).trans rfl, (cells_at h 3).trans rfl, (cells_at h 4).trans rfl, (cells_at h 5).trans rfl, (cells_at h 6).trans rfl, (cells_at h 7).trans rfl, (cells_at h 8).trans rfl, (cells_at h 9).trans rfl⟩
/-- What a master's function answers: messages; and what has become of it. -/
def MasO (B K : Nat) (M : MaM) (o : List MsM) (w : World) (e : Ending) (w' : World) : Prop := ∃ v, e = .returned v ∧ w'.heap[K]? = some (.cells M.cells 64 (0, 0)) ∧ w'.ownsRow B 39 4 v o.length (msgs o) ∧ Below B w w'
set_option maxRecDepth 100000 in
set_option maxHeartbeats 2000000 in
theorem atRest_any (M : MaM) (w : World) : Calls Try.prog 44 #[.agg M.cells] w fun e w' => e = .returned (.agg M.rest.cells) ∧ Below w.heap.size w w' := by
  obtain ⟨no, ph, now, pt, want, timer, pat, tries, lim, gave⟩ := M
  unfold MaM.rest MaM.cells
  simp only
  go_enter Try.func44, Try.ntmps44
  go_upto_region 1 with fail
  have hqY := (alloc_old (w.alloc (.cells #[.int .i64 no, .int .i64 ph, .int .i64 now, .int .i64 pt, .bool want, .int .i64 timer, .int .i64 pat, .int .i64 tries, .int .i64 lim, .bool gave] 32)) (.cells #[.int .i64 0, .int .i64 0, .int .i64 0, .int .i64 0, .bool false, .int .i64 0, .int .i64 0, .int .i64 0, .int .i64 0, .bool false] 32) (lt_heap (alloc_new w (.cells #[.int .i64 no, .int .i64 ph, .int .i64 now, .int .i64 pt, .bool want, .int .i64 timer, .int .i64 pat, .int .i64 tries, .int .i64 lim, .bool gave] 32)))).trans (alloc_new w (.cells #[.int .i64 no, .int .i64 ph, .int .i64 now, .int .i64 pt, .bool want, .int .i64 timer, .int .i64 pat, .int .i64 tries, .int .i64 lim, .bool gave] 32))
  have hqA := alloc_new (w.alloc (.cells #[.int .i64 no, .int .i64 ph, .int .i64 now, .int .i64 pt, .bool want, .int .i64 timer, .int .i64 pat, .int .i64 tries, .int .i64 lim, .bool gave] 32)) (.cells #[.int .i64 0, .int .i64 0, .int .i64 0, .int .i64 0, .bool false, .int .i64 0, .int .i64 0, .int .i64 0, .int .i64 0, .bool false] 32)
  have hb1 := (below_al w (.cells #[.int .i64 no, .int .i64 ph, .int .i64 now, .int .i64 pt, .bool want, .int .i64 timer, .int .i64 pat, .int .i64 tries, .int .i64 lim, .bool gave] 32)).alloc (below_al w (.cells #[.int .i64 no, .int .i64 ph, .int .i64 now, .int .i64 pt, .bool want, .int .i64 timer, .int .i64 pat, .int .i64 tries, .int .i64 lim, .bool gave] 32)).size (.cells #[.int .i64 0, .int .i64 0, .int .i64 0, .int .i64 0, .bool false, .int .i64 0, .int .i64 0, .int .i64 0, .int .i64 0, .bool false] 32)
  rw [show (w.alloc (.cells #[.int .i64 no, .int .i64 ph, .int .i64 now, .int .i64 pt, .bool want, .int .i64 timer, .int .i64 pat, .int .i64 tries, .int .i64 lim, .bool gave] 32)).heap.size = w.heap.size + 1 from by simp only [World.size_alloc]] at hqA
  obtain ⟨w1, hw1⟩ : ∃ x, x = ((w.alloc (.cells #[.int .i64 no, .int .i64 ph, .int .i64 now, .int .i64 pt, .bool want, .int .i64 timer, .int .i64 pat, .int .i64 tries, .int .i64 lim, .bool gave] 32)).alloc (.cells #[.int .i64 0, .int .i64 0, .int .i64 0, .int .i64 0, .bool false, .int .i64 0, .int .i64 0, .int .i64 0, .int .i64 0, .bool false] 32)) := ⟨_, rfl⟩
  rw [← hw1] at hqY hqA hb1 ⊢
  obtain ⟨Y, hnY⟩ : ∃ x, x = w.heap.size := ⟨_, rfl⟩
  obtain ⟨A, hnA⟩ : ∃ x, x = w.heap.size + 1 := ⟨_, rfl⟩
  have HNE : Hid (w.heap.size ≤ Y ∧ w.heap.size ≤ A ∧ Y ≠ A) := ⟨by omega, by omega, by omega⟩
  rw [← hnY] at hqY
  rw [← hnA] at hqA
  rw [show (Value.pointer (some { block := w.heap.size, off := 0 })) = Value.pointer (some { block := Y, off := 0 }) by rw [hnY], show (Value.pointer (some { block := w.heap.size + 1, off := 0 })) = Value.pointer (some { block := A, off := 0 }) by rw [hnA]]
  have HQY := hide' hqY
  have HQA := hide' hqA
  have HB1 := hide' hb1
  clear hqY hqA hb1 hw1 hnY hnA
  obtain ⟨c0, c1, c2, c3, c4, c5, c6, c7, c8, c9⟩ := cellsP10 HQY.out
  obtain ⟨b0, b1, b2, b3, b4, b5, b6, b7, b8, b9⟩ := cellsP10 HQA.out
  obtain ⟨e0, e1, e2, e3, e4, e5, e6, e7, e8, e9⟩ := frozenP10 HQA.out
  have HP := hide' (put10 HQA.out (.int .i64 no) (.int .i64 0) (.int .i64 0) (.int .i64 0) (.bool false) (.int .i64 0) (.int .i64 pat) (.int .i64 0) (.int .i64 lim) (.bool gave))
  have HBF := hide' (HB1.out.trans (HP.out.2.below HNE.out.2.1 HB1.out.size))
  clear HQY HB1
  go_wp2
  refine bodyPost_ret (results_cell_row rfl _ _ A 32 _ (0, 0) _ rfl HP.out.1 Try.underlying32 rfl (by kernel_rfl)) rfl ?_
  exact ⟨rfl, HBF.out⟩
set_option maxRecDepth 100000 in
set_option maxHeartbeats 2000000 in
theorem asked_any (M : MaM) (B K : Nat) (w : World) (h : w.heap[K]? = some (.cells M.cells 64 (0, 0))) (hB : B ≤ w.heap.size) : Calls Try.prog 51 #[.pointer (some ⟨K, 0, none⟩)] w (MasO B K M [M.msg] w) := by
  obtain ⟨_, c1, c2, c3, c4, _⟩ := cellM h
  have HS : Hid (w.drew.cell? ⟨K, 1, none⟩ = some (.int .i64 M.ph) ∧ w.drew.cell? ⟨K, 2, none⟩ = some (.int .i64 M.now) ∧ w.drew.cell? ⟨K, 3, none⟩ = some (.int .i64 M.pt) ∧ w.drew.cell? ⟨K, 4, none⟩ = some (.bool M.want)) := ⟨c1, c2, c3, c4⟩
  have hba := below_al w.drew (.cells #[.int .i64 M.ph, .int .i64 M.now, .int .i64 M.pt, .bool M.want] 39)
  have HS2 : Hid ((w.drew.alloc (.cells #[.int .i64 M.ph, .int .i64 M.now, .int .i64 M.pt, .bool M.want] 39)).cell? ⟨K, 1, none⟩ = some (.int .i64 M.ph) ∧ (w.drew.alloc (.cells #[.int .i64 M.ph, .int .i64 M.now, .int .i64 M.pt, .bool M.want] 39)).cell? ⟨K, 2, none⟩ = some (.int .i64 M.now) ∧ (w.drew.alloc (.cells #[.int .i64 M.ph, .int .i64 M.now, .int .i64 M.pt, .bool M.want] 39)).cell? ⟨K, 3, none⟩ = some (.int .i64 M.pt) ∧ (w.drew.alloc (.cells #[.int .i64 M.ph, .int .i64 M.now, .int .i64 M.pt, .bool M.want] 39)).cell? ⟨K, 4, none⟩ = some (.bool M.want)) := ⟨up_cell hba HS.out.1, up_cell hba HS.out.2.1, up_cell hba HS.out.2.2.1, up_cell hba HS.out.2.2.2⟩
  have HF : Hid (MasO B K M [M.msg] w (.returned (.slice (some ⟨w.heap.size, 0, none⟩) 1 1)) (w.drew.alloc (.cells #[.int .i64 M.ph, .int .i64 M.now, .int .i64 M.pt, .bool M.want] 39))) := by
    refine ⟨_, rfl, ?_, ⟨rfl, .inr ⟨_, _, _, rfl, hB, alloc_new w.drew _, Nat.le_refl _, by unfold maxLen; omega, rfl, rfl⟩⟩, ?_⟩
    · exact (hba.block K (lt_heap h)).trans h
    · exact ((Below.refl w.heap.size w).drew.trans hba).mono hB
  clear h hba c1 c2 c3 c4 hB
  go_enter Try.func51, Try.ntmps51
  go_upto_region 1 with fail
  refine wp_region_tail (fun W' => W'.cell? ⟨K, 1, none⟩ = some (.int .i64 M.ph) ∧ W'.cell? ⟨K, 2, none⟩ = some (.int .i64 M.now) ∧ W'.cell? ⟨K, 3, none⟩ = some (.int .i64 M.pt) ∧ W'.cell? ⟨K, 4, none⟩ = some (.bool M.want)) 22 (by kernel_rfl) ?_
  refine wpAnyD_takeAt 0 (some 3) (v := ?_) rfl (by kernel_rfl) (by kernel_rfl) (by kernel_rfl) (by kernel_rfl) (by kernel_rfl) (fun _ _ _ h => h) (by exact HS.out) (fun o hop => ?_) ?_
  rotate_left
  · injection hop with hop
    subst hop
    refine ⟨rfl, fun W hW => ?_⟩
    obtain ⟨s0, s1, s2, s3⟩ := hW
    go_simp
    first
    | rfl
    | (constructor <;> rfl)
  try simp only [Act.put, List.setIfInBounds_toArray, List.set_cons_zero, List.set_cons_succ]
  refine wpAnyD_takeAt 1 (some 4) (v := ?_) rfl (by kernel_rfl) (by kernel_rfl) (by kernel_rfl) (by kernel_rfl) (by kernel_rfl) (fun _ _ _ h => h) (by exact HS.out) (fun o hop => ?_) ?_
  rotate_left
  · injection hop with hop
    subst hop
    refine ⟨rfl, fun W hW => ?_⟩
    obtain ⟨s0, s1, s2, s3⟩ := hW
    go_simp
    first
    | rfl
    | (constructor <;> rfl)
  try simp only [Act.put, List.setIfInBounds_toArray, List.set_cons_zero, List.set_cons_succ]
  refine wpAnyD_takeAt 2 (some 5) (v := ?_) rfl (by kernel_rfl) (by kernel_rfl) (by kernel_rfl) (by kernel_rfl) (by kernel_rfl) (fun _ _ _ h => h) (by exact HS.out) (fun o hop => ?_) ?_
  rotate_left
  · injection hop with hop
    subst hop
    refine ⟨rfl, fun W hW => ?_⟩
    obtain ⟨s0, s1, s2, s3⟩ := hW
    go_simp
    first
    | rfl
    | (constructor <;> rfl)
  try simp only [Act.put, List.setIfInBounds_toArray, List.set_cons_zero, List.set_cons_succ]
  refine wpAnyD_takeAt 3 (some 6) (v := ?_) rfl (by kernel_rfl) (by kernel_rfl) (by kernel_rfl) (by kernel_rfl) (by kernel_rfl) (fun _ _ _ h => h) (by exact HS.out) (fun o hop => ?_) ?_
  rotate_left
  · injection hop with hop
    subst hop
    refine ⟨rfl, fun W hW => ?_⟩
    obtain ⟨s0, s1, s2, s3⟩ := hW
    go_simp
    first
    | rfl
    | (constructor <;> rfl)
  try simp only [Act.put, List.setIfInBounds_toArray, List.set_cons_zero, List.set_cons_succ]
  refine wpAnyD_takeAt 4 (some 7) (v := ?_) rfl (by kernel_rfl) (by kernel_rfl) (by kernel_rfl) (by kernel_rfl) (by kernel_rfl) (fun _ _ _ h => h) (by exact HS.out) (fun o hop => ?_) ?_
  rotate_left
  · injection hop with hop
    subst hop
    refine ⟨rfl, fun W hW => ?_⟩
    obtain ⟨s0, s1, s2, s3⟩ := hW
    go_simp
    first
    | rfl
    | (constructor <;> rfl)
  try simp only [Act.put, List.setIfInBounds_toArray, List.set_cons_zero, List.set_cons_succ]
  refine wpAnyD_takeAt 5 (some 8) (v := ?_) rfl (by kernel_rfl) (by kernel_rfl) (by kernel_rfl) (by kernel_rfl) (by kernel_rfl) (fun _ _ _ h => h) (by exact HS.out) (fun o hop => ?_) ?_
  rotate_left
  · injection hop with hop
    subst hop
    refine ⟨rfl, fun W hW => ?_⟩
    obtain ⟨s0, s1, s2, s3⟩ := hW
    go_simp
    first
    | rfl
    | (constructor <;> rfl)
  try simp only [Act.put, List.setIfInBounds_toArray, List.set_cons_zero, List.set_cons_succ]
  refine wpAnyD_takeAt 6 (some 9) (v := ?_) rfl (by kernel_rfl) (by kernel_rfl) (by kernel_rfl) (by kernel_rfl) (by kernel_rfl) (fun _ _ _ h => h) (by exact HS.out) (fun o hop => ?_) ?_
  rotate_left
  · injection hop with hop
    subst hop
    refine ⟨rfl, fun W hW => ?_⟩
    obtain ⟨s0, s1, s2, s3⟩ := hW
    go_simp
    first
    | rfl
    | (constructor <;> rfl)
  try simp only [Act.put, List.setIfInBounds_toArray, List.set_cons_zero, List.set_cons_succ]
  refine wpAnyD_takeAt 7 (some 10) (v := ?_) rfl (by kernel_rfl) (by kernel_rfl) (by kernel_rfl) (by kernel_rfl) (by kernel_rfl) (fun _ _ _ h => h) (by exact HS.out) (fun o hop => ?_) ?_
  rotate_left
  · injection hop with hop
    subst hop
    refine ⟨rfl, fun W hW => ?_⟩
    obtain ⟨s0, s1, s2, s3⟩ := hW
    go_simp
    first
    | rfl
    | (constructor <;> rfl)
  try simp only [Act.put, List.setIfInBounds_toArray, List.set_cons_zero, List.set_cons_succ]
  refine wpAnyD_takeAt 8 (some 11) (v := ?_) rfl (by kernel_rfl) (by kernel_rfl) (by kernel_rfl) (by kernel_rfl) (by kernel_rfl) (fun _ _ _ h => h) (by exact HS.out) (fun o hop => ?_) ?_
  rotate_left
  · injection hop with hop
    subst hop
    refine ⟨rfl, fun W hW => ?_⟩
    obtain ⟨s0, s1, s2, s3⟩ := hW
    go_simp
    first
    | rfl
    | (constructor <;> rfl)
  try simp only [Act.put, List.setIfInBounds_toArray, List.set_cons_zero, List.set_cons_succ]
  refine wpAnyD_takeAt 9 (some 12) (v := ?_) rfl (by kernel_rfl) (by kernel_rfl) (by kernel_rfl) (by kernel_rfl) (by kernel_rfl) (fun _ _ _ h => h) (by exact HS.out) (fun o hop => ?_) ?_
  rotate_left
  · injection hop with hop
    subst hop
    refine ⟨rfl, fun W hW => ?_⟩
    obtain ⟨s0, s1, s2, s3⟩ := hW
    go_simp
    first
    | rfl
    | (constructor <;> rfl)
  try simp only [Act.put, List.setIfInBounds_toArray, List.set_cons_zero, List.set_cons_succ]
  refine wpAnyD_takeAt 10 (some 13) (v := ?_) rfl (by kernel_rfl) (by kernel_rfl) (by kernel_rfl) (by kernel_rfl) (by kernel_rfl) (fun _ _ _ h => h) (by exact HS.out) (fun o hop => ?_) ?_
  rotate_left
  · injection hop with hop
    subst hop
    refine ⟨rfl, fun W hW => ?_⟩
    obtain ⟨s0, s1, s2, s3⟩ := hW
    go_simp
    first
    | rfl
    | (constructor <;> rfl)
  try simp only [Act.put, List.setIfInBounds_toArray, List.set_cons_zero, List.set_cons_succ]
  refine wpAnyD_takeAt 11 (some 14) (v := ?_) rfl (by kernel_rfl) (by kernel_rfl) (by kernel_rfl) (by kernel_rfl) (by kernel_rfl) (fun _ _ _ h => h) (by exact HS.out) (fun o hop => ?_) ?_
  rotate_left
  · injection hop with hop
    subst hop
    refine ⟨rfl, fun W hW => ?_⟩
    obtain ⟨s0, s1, s2, s3⟩ := hW
    go_simp
    first
    | rfl
    | (constructor <;> rfl)
  try simp only [Act.put, List.setIfInBounds_toArray, List.set_cons_zero, List.set_cons_succ]
  refine wpAnyD_takeAt 12 (some 15) (v := ?_) rfl (by kernel_rfl) (by kernel_rfl) (by kernel_rfl) (by kernel_rfl) (by kernel_rfl) (fun _ _ _ h => h) (by exact HS.out) (fun o hop => ?_) ?_
  rotate_left
  · injection hop with hop
    subst hop
    refine ⟨rfl, fun W hW => ?_⟩
    obtain ⟨s0, s1, s2, s3⟩ := hW
    go_simp
    first
    | rfl
    | (constructor <;> rfl)
  try simp only [Act.put, List.setIfInBounds_toArray, List.set_cons_zero, List.set_cons_succ]
  refine wpAnyD_takeAt 13 (some 16) (v := ?_) rfl (by kernel_rfl) (by kernel_rfl) (by kernel_rfl) (by kernel_rfl) (by kernel_rfl) (fun _ _ _ h => h) (by exact HS.out) (fun o hop => ?_) ?_
  rotate_left
  · injection hop with hop
    subst hop
    refine ⟨rfl, fun W hW => ?_⟩
    obtain ⟨s0, s1, s2, s3⟩ := hW
    go_simp
    first
    | rfl
    | (constructor <;> rfl)
  try simp only [Act.put, List.setIfInBounds_toArray, List.set_cons_zero, List.set_cons_succ]
  refine wpAnyD_takeAt 14 (some 17) (v := ?_) rfl (by kernel_rfl) (by kernel_rfl) (by kernel_rfl) (by kernel_rfl) (by kernel_rfl) (fun _ _ _ h => h) (by exact HS.out) (fun o hop => ?_) ?_
  rotate_left
  · injection hop with hop
    subst hop
    refine ⟨rfl, fun W hW => ?_⟩
    obtain ⟨s0, s1, s2, s3⟩ := hW
    go_simp
    first
    | rfl
    | (constructor <;> rfl)
  try simp only [Act.put, List.setIfInBounds_toArray, List.set_cons_zero, List.set_cons_succ]
  refine wpAnyD_takeAt 15 (some 18) (v := ?_) rfl (by kernel_rfl) (by kernel_rfl) (by kernel_rfl) (by kernel_rfl) (by kernel_rfl) (fun _ _ _ h => h) (by exact HS.out) (fun o hop => ?_) ?_
  rotate_left
  · injection hop with hop
    subst hop
    refine ⟨rfl, fun W hW => ?_⟩
    obtain ⟨s0, s1, s2, s3⟩ := hW
    go_simp
    first
    | rfl
    | (constructor <;> rfl)
  try simp only [Act.put, List.setIfInBounds_toArray, List.set_cons_zero, List.set_cons_succ]
  refine wpAnyD_takeAt 16 (some 19) (v := ?_) rfl (by kernel_rfl) (by kernel_rfl) (by kernel_rfl) (by kernel_rfl) (by kernel_rfl) (fun _ _ _ h => h) (by exact HS.out) (fun o hop => ?_) ?_
  rotate_left
  · injection hop with hop
    subst hop
    refine ⟨rfl, fun W hW => ?_⟩
    obtain ⟨s0, s1, s2, s3⟩ := hW
    go_simp
    first
    | rfl
    | (constructor <;> rfl)
  try simp only [Act.put, List.setIfInBounds_toArray, List.set_cons_zero, List.set_cons_succ]
  refine wpAnyD_takeAt 17 (some 20) (v := ?_) rfl (by kernel_rfl) (by kernel_rfl) (by kernel_rfl) (by kernel_rfl) (by kernel_rfl) (fun _ _ _ h => h) (by exact HS.out) (fun o hop => ?_) ?_
  rotate_left
  · injection hop with hop
    subst hop
    refine ⟨rfl, fun W hW => ?_⟩
    obtain ⟨s0, s1, s2, s3⟩ := hW
    go_simp
    first
    | rfl
    | (constructor <;> rfl)
  try simp only [Act.put, List.setIfInBounds_toArray, List.set_cons_zero, List.set_cons_succ]
  refine wpAnyD_takeAt 18 (some 21) (v := ?_) rfl (by kernel_rfl) (by kernel_rfl) (by kernel_rfl) (by kernel_rfl) (by kernel_rfl) (fun _ _ _ h => h) (by exact HS.out) (fun o hop => ?_) ?_
  rotate_left
  · injection hop with hop
    subst hop
    refine ⟨rfl, fun W hW => ?_⟩
    obtain ⟨s0, s1, s2, s3⟩ := hW
    go_simp
    first
    | rfl
    | (constructor <;> rfl)
  try simp only [Act.put, List.setIfInBounds_toArray, List.set_cons_zero, List.set_cons_succ]
  refine wpAnyD_takeAt 19 (some 22) (v := ?_) rfl (by kernel_rfl) (by kernel_rfl) (by kernel_rfl) (by kernel_rfl) (by kernel_rfl) (fun _ _ _ h => h) (by exact HS.out) (fun o hop => ?_) ?_
  rotate_left
  · injection hop with hop
    subst hop
    refine ⟨rfl, fun W hW => ?_⟩
    obtain ⟨s0, s1, s2, s3⟩ := hW
    go_simp
    first
    | rfl
    | (constructor <;> rfl)
  try simp only [Act.put, List.setIfInBounds_toArray, List.set_cons_zero, List.set_cons_succ]
  refine wpAnyD_takeAt 20 (some 23) (v := ?_) rfl (by kernel_rfl) (by kernel_rfl) (by kernel_rfl) (by kernel_rfl) (by kernel_rfl) (fun _ _ _ h => h) (by exact HS.out) (fun o hop => ?_) ?_
  rotate_left
  · injection hop with hop
    subst hop
    refine ⟨rfl, fun W hW => ?_⟩
    obtain ⟨s0, s1, s2, s3⟩ := hW
    go_simp
    first
    | rfl
    | (constructor <;> rfl)
  try simp only [Act.put, List.setIfInBounds_toArray, List.set_cons_zero, List.set_cons_succ]
  refine wpAnyT_one (i := 21) (by kernel_rfl) rfl rfl (fun K' hK => ?_)
  go_simp
  refine hK.out _ _ (fun _ => HS2.out) ?_
  clear hK K'
  try simp only [Act.put, List.setIfInBounds_toArray, List.set_cons_zero, List.set_cons_succ]
  refine wpAnyT_one (i := 22) (by kernel_rfl) rfl rfl (fun K' hK => ?_)
  go_simp
  refine hK.out _ _ (fun h => absurd rfl h) ?_
  clear hK K'
  try simp only [Act.put, List.setIfInBounds_toArray, List.set_cons_zero, List.set_cons_succ]
  refine wpAnyT_done (by kernel_rfl) ?_ _
  go_wp2
  go_ret
  exact HF.out
end Go.Proofs.Ytjhmendiefojoam
