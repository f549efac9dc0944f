/- free. -/
import Derived.Test.YtnhddmcdmcpkeajW3
namespace Go.Proofs.Ytnhddmcdmcpkeaj
open Go.RowKit Go.Shelf

def freeOf (k : LakeM) (a : Int) : Int := if a - k.least < k.turb then a - k.least else k.turb
def freeA (ls : List LakeM) (a0 a1 : Int) (k : Nat) : Array Value := #[.int .i64 (if 0 < k then freeOf (lkD ls 0) a0 else 0), .int .i64 (if 1 < k then freeOf (lkD ls 1) a1 else 0)]
theorem set2' (b0 b1 x0 x1 : Value) : (#[b0, b1].setIfInBounds 0 x0).setIfInBounds 1 x1 = #[x0, x1] := by simp only [List.setIfInBounds_toArray, List.set_cons_zero, List.set_cons_succ]
theorem set_two {w : World} {A t : Nat} {c0 c1 : Value} (h : w.heap[A]? = some (.cells #[c0, c1] t (0, 0))) (x0 x1 : Value) : ((w.setCell ⟨A, 0, none⟩ x0).setCell ⟨A, 1, none⟩ x1).heap[A]? = some (.cells #[x0, x1] t (0, 0)) := by
  have h1 := set_any (set_any h 0 x0) 1 x1
  rw [set2'] at h1
  exact h1
theorem lkD_ok {ls : List LakeM} (h : ∀ k ∈ ls, LakeOk k) {i : Nat} (hi : i < ls.length) : LakeOk (lkD ls i) := by
  rw [← lk_at hi]
  exact h _ (List.getElem_mem hi)
set_option maxRecDepth 100000 in
set_option maxHeartbeats 2000000 in
theorem free_any (ls : List LakeM) (hok : ∀ k ∈ ls, LakeOk k) (al : Option Addr) (L cl : Nat) (vi : Value) (a0 a1 : Int) (w : World) (hx : RowAt w (.slice al L cl) ls.length 5 (ls.flatMap LakeM.cells)) (hl : ls.length = L) (hL : L ≤ 2) (ha : -1000 ≤ a0 ∧ a0 ≤ 1000 ∧ -1000 ≤ a1 ∧ a1 ≤ 1000) : Calls Try.prog 64 #[.agg #[.slice al L cl, vi], .agg #[.int .i64 a0, .int .i64 a1]] w fun e w' => e = .returned (.agg (freeA ls a0 a1 L)) ∧ Below w.heap.size w w' := by
  have HX := hide' hx
  have HL := hide' hl
  have HOK := hide' hok
  clear hx hl hok
  go_enter Try.func64, Try.ntmps64
  go_upto_region 1 with fail
  have hqB := (alloc_old ((w.alloc (.cells #[.slice al L cl, vi] 75)).alloc (.cells #[.int .i64 a0, .int .i64 a1] 117)) (.cells #[.int .i64 0, .int .i64 0] 117) (lt_heap ((alloc_old (w.alloc (.cells #[.slice al L cl, vi] 75)) (.cells #[.int .i64 a0, .int .i64 a1] 117) (lt_heap (alloc_new w (.cells #[.slice al L cl, vi] 75)))).trans (alloc_new w (.cells #[.slice al L cl, vi] 75))))).trans ((alloc_old (w.alloc (.cells #[.slice al L cl, vi] 75)) (.cells #[.int .i64 a0, .int .i64 a1] 117) (lt_heap (alloc_new w (.cells #[.slice al L cl, vi] 75)))).trans (alloc_new w (.cells #[.slice al L cl, vi] 75)))
  have hqR := (alloc_old ((w.alloc (.cells #[.slice al L cl, vi] 75)).alloc (.cells #[.int .i64 a0, .int .i64 a1] 117)) (.cells #[.int .i64 0, .int .i64 0] 117) (lt_heap (alloc_new (w.alloc (.cells #[.slice al L cl, vi] 75)) (.cells #[.int .i64 a0, .int .i64 a1] 117)))).trans (alloc_new (w.alloc (.cells #[.slice al L cl, vi] 75)) (.cells #[.int .i64 a0, .int .i64 a1] 117))
  have hqS := alloc_new ((w.alloc (.cells #[.slice al L cl, vi] 75)).alloc (.cells #[.int .i64 a0, .int .i64 a1] 117)) (.cells #[.int .i64 0, .int .i64 0] 117)
  have hb1 := ((below_al w (.cells #[.slice al L cl, vi] 75)).alloc (below_al w (.cells #[.slice al L cl, vi] 75)).size (.cells #[.int .i64 a0, .int .i64 a1] 117)).alloc ((below_al w (.cells #[.slice al L cl, vi] 75)).alloc (below_al w (.cells #[.slice al L cl, vi] 75)).size (.cells #[.int .i64 a0, .int .i64 a1] 117)).size (.cells #[.int .i64 0, .int .i64 0] 117)
  rw [show (w.alloc (.cells #[.slice al L cl, vi] 75)).heap.size = w.heap.size + 1 from by simp only [World.size_alloc]] at hqR
  rw [show ((w.alloc (.cells #[.slice al L cl, vi] 75)).alloc (.cells #[.int .i64 a0, .int .i64 a1] 117)).heap.size = w.heap.size + 1 + 1 from by simp only [World.size_alloc]] at hqS
  obtain ⟨w1, hw1⟩ : ∃ x, x = (((w.alloc (.cells #[.slice al L cl, vi] 75)).alloc (.cells #[.int .i64 a0, .int .i64 a1] 117)).alloc (.cells #[.int .i64 0, .int .i64 0] 117)) := ⟨_, rfl⟩
  rw [← hw1] at hqB hqR hqS hb1 ⊢
  obtain ⟨B, hnB⟩ : ∃ x, x = w.heap.size := ⟨_, rfl⟩
  obtain ⟨R, hnR⟩ : ∃ x, x = w.heap.size + 1 := ⟨_, rfl⟩
  obtain ⟨S, hnS⟩ : ∃ x, x = w.heap.size + 1 + 1 := ⟨_, rfl⟩
  have HNE : Hid (w.heap.size ≤ B ∧ w.heap.size ≤ R ∧ w.heap.size ≤ S ∧ B ≠ R ∧ B ≠ S ∧ R ≠ S) := ⟨by omega, by omega, by omega, by omega, by omega, by omega⟩
  rw [← hnB] at hqB
  rw [← hnR] at hqR
  rw [← hnS] at hqS
  rw [show (Value.pointer (some { block := w.heap.size, off := 0 })) = Value.pointer (some { block := B, off := 0 }) by rw [hnB], show (Value.pointer (some { block := w.heap.size + 1, off := 0 })) = Value.pointer (some { block := R, off := 0 }) by rw [hnR], show (Value.pointer (some { block := w.heap.size + 1 + 1, off := 0 })) = Value.pointer (some { block := S, off := 0 }) by rw [hnS]]
  have HQB := hide' hqB
  have HQR := hide' hqR
  have HQS := hide' hqS
  have HB1 := hide' hb1
  clear hqB hqR hqS hb1 hw1 hnB hnR hnS
  have y0 : w1.cell? ⟨B, 0, none⟩ = some (.slice al L cl) := (cells_at HQB.out 0).trans rfl
  go_wp2_with fail
  clear y0
  go_loopw [10] (fun i wr => ∃ (k : Nat), i = .int .i64 k ∧ k ≤ L ∧ Hid (Bt [S] w1 wr ∧ wr.heap[S]? = some (.cells (freeA ls a0 a1 k) 117 (0, 0)))) (fun i _ => L - (intOf i).toNat)
  case atStart => exact ⟨0, rfl, Nat.zero_le _, Bt.refl _ _, HQS.out⟩
  case round =>
    obtain ⟨k, rfl, hk, HW⟩ := hrel
    obtain ⟨v0, v1, hA⟩ : ∃ v0 v1 : Int, freeA ls a0 a1 k = #[.int .i64 v0, .int .i64 v1] := ⟨_, _, rfl⟩
    have HV := hide' hA.symm
    rw [hA] at HW
    clear hA
    by_cases hlt : k < L
    · obtain ⟨lb, lo, rfl, hlb, c0, c1, c2, c3, c4⟩ := lake_cells HX.out (k := k) (by rw [HL.out]; exact hlt)
      have hn : lb ∉ [S] := by have := HNE.out.2.2.1; simp; omega
      replace c0 := HW.out.1.cell (up_cell HB1.out c0) hn
      replace c1 := HW.out.1.cell (up_cell HB1.out c1) hn
      replace c2 := HW.out.1.cell (up_cell HB1.out c2) hn
      replace c3 := HW.out.1.cell (up_cell HB1.out c3) hn
      replace c4 := HW.out.1.cell (up_cell HB1.out c4) hn
      have ok := lkD_ok HOK.out (i := k) (by rw [HL.out]; exact hlt)
      have hk2 : k = 0 ∨ k = 1 := by omega
      clear hn hlb
      rcases hk2 with rfl | rfl
      · simp only [Nat.zero_mul, Nat.add_zero] at c0 c1 c2 c3 c4
        have hwr : IntKind.i64.wrap (a0 - (lkD ls 0).least) = a0 - (lkD ls 0).least := Go.IntWalk.i64_in _ (by have := ok.l; have := ok.s; have := ok.m; have := ok.x; omega)
        clear ok
        go_upto_region 4 with fail
        have hqk := alloc_new wr (.cells #[.int .i64 (lkD ls 0).least, .int .i64 (lkD ls 0).most, .int .i64 (lkD ls 0).start, .int .i64 (lkD ls 0).turb, .int .i64 (lkD ls 0).worth] 71)
        have HZ := hide' (⟨HW.out.1.al (.cells #[.int .i64 (lkD ls 0).least, .int .i64 (lkD ls 0).most, .int .i64 (lkD ls 0).start, .int .i64 (lkD ls 0).turb, .int .i64 (lkD ls 0).worth] 71), (alloc_old wr _ (lt_heap HW.out.2)).trans HW.out.2⟩ : Bt [S] w1 (wr.alloc (.cells #[.int .i64 (lkD ls 0).least, .int .i64 (lkD ls 0).most, .int .i64 (lkD ls 0).start, .int .i64 (lkD ls 0).turb, .int .i64 (lkD ls 0).worth] 71)) ∧ (wr.alloc (.cells #[.int .i64 (lkD ls 0).least, .int .i64 (lkD ls 0).most, .int .i64 (lkD ls 0).start, .int .i64 (lkD ls 0).turb, .int .i64 (lkD ls 0).worth] 71)).heap[S]? = some (.cells #[.int .i64 v0, .int .i64 v1] 117 (0, 0)))
        obtain ⟨z, hz⟩ : ∃ x, x = wr.alloc (.cells #[.int .i64 (lkD ls 0).least, .int .i64 (lkD ls 0).most, .int .i64 (lkD ls 0).start, .int .i64 (lkD ls 0).turb, .int .i64 (lkD ls 0).worth] 71) := ⟨_, rfl⟩
        rw [← hz] at hqk HZ ⊢
        obtain ⟨K, hK⟩ : ∃ x, x = wr.heap.size := ⟨_, rfl⟩
        rw [← hK] at hqk
        rw [show (Value.pointer (some { block := wr.heap.size, off := 0 })) = Value.pointer (some { block := K, off := 0 }) by rw [hK]]
        obtain ⟨tt, htt⟩ : ∃ x, x = (lkD ls 0).turb := ⟨_, rfl⟩
        obtain ⟨le, hle⟩ : ∃ x, x = (lkD ls 0).least := ⟨_, rfl⟩
        have HFO : Hid (freeOf (lkD ls 0) a0 = if a0 - le < tt then a0 - le else tt) := by rw [htt, hle]; rfl
        rw [← htt, ← hle] at hqk
        rw [← hle] at hwr
        have q3 : z.drew.cell? ⟨K, 3, none⟩ = some (.int .i64 tt) := (cells_at (w := z.drew) hqk 3).trans rfl
        have q0 : z.drew.cell? ⟨K, 0, none⟩ = some (.int .i64 le) := (cells_at (w := z.drew) hqk 0).trans rfl
        have qr : z.drew.cell? ⟨R, 0, none⟩ = some (.int .i64 a0) := (cells_at (w := z.drew) (HZ.out.1.keep HQR.out (by have := HNE.out.2.2.2.2.2; simp; omega)) 0).trans rfl
        simp only [← htt, ← hle]
        clear hqk hz hK htt hle HW c0 c1 c2 c3 c4
        refine wp_region_tail (fun W => W.cell? ⟨K, 3, none⟩ = some (.int .i64 tt) ∧ W.cell? ⟨K, 0, none⟩ = some (.int .i64 le) ∧ W.cell? ⟨R, 0, none⟩ = some (.int .i64 a0)) 11 (by kernel_rfl) ?_
        refine wpAnyT_letter (fun W => Bt [S] w1 W ∧ W.heap[S]? = some (.cells #[.int .i64 v0, .int .i64 v1] 117 (0, 0)) ∧ W.cell? ⟨K, 3, none⟩ = some (.int .i64 tt) ∧ W.cell? ⟨K, 0, none⟩ = some (.int .i64 le) ∧ W.cell? ⟨R, 0, none⟩ = some (.int .i64 a0)) ⟨HZ.out.1.drew, HZ.out.2, q3, q0, qr⟩ ?_
        clear HZ q3 q0 qr
        rintro zz ⟨hbt, hzs, k3, k0, kr⟩
        refine wpAnyD_takeAt 0 (some 15) (v := ?_) rfl (by kernel_rfl) (by kernel_rfl) (by kernel_rfl) (by kernel_rfl) (by kernel_rfl) (fun _ _ _ h => h) (by exact ⟨k3, k0, kr⟩) (fun o hop => ?_) ?_
        rotate_left
        · injection hop with hop
          subst hop
          refine ⟨rfl, fun W hW => ?_⟩
          obtain ⟨s0, s1, s2⟩ := hW
          go_simp
          first
          | rfl
          | (constructor <;> rfl)
          | rw [if_neg (by omega)]
        try simp only [Act.put, List.setIfInBounds_toArray, List.set_cons_zero, List.set_cons_succ]
        refine wpAnyD_takeAt 1 (some 16) (v := ?_) rfl (by kernel_rfl) (by kernel_rfl) (by kernel_rfl) (by kernel_rfl) (by kernel_rfl) (fun _ _ _ h => h) (by exact ⟨k3, k0, kr⟩) (fun o hop => ?_) ?_
        rotate_left
        · injection hop with hop
          subst hop
          refine ⟨rfl, fun W hW => ?_⟩
          obtain ⟨s0, s1, s2⟩ := hW
          go_simp
          first
          | rfl
          | (constructor <;> rfl)
          | rw [if_neg (by omega)]
        try simp only [Act.put, List.setIfInBounds_toArray, List.set_cons_zero, List.set_cons_succ]
        refine wpAnyD_takeAt 2 (some 17) (v := ?_) rfl (by kernel_rfl) (by kernel_rfl) (by kernel_rfl) (by kernel_rfl) (by kernel_rfl) (fun _ _ _ h => h) (by exact ⟨k3, k0, kr⟩) (fun o hop => ?_) ?_
        rotate_left
        · injection hop with hop
          subst hop
          refine ⟨rfl, fun W hW => ?_⟩
          obtain ⟨s0, s1, s2⟩ := hW
          go_simp
          first
          | rfl
          | (constructor <;> rfl)
          | rw [if_neg (by omega)]
        try simp only [Act.put, List.setIfInBounds_toArray, List.set_cons_zero, List.set_cons_succ]
        refine wpAnyD_takeAt 3 (some 18) (v := ?_) rfl (by kernel_rfl) (by kernel_rfl) (by kernel_rfl) (by kernel_rfl) (by kernel_rfl) (fun _ _ _ h => h) (by exact ⟨k3, k0, kr⟩) (fun o hop => ?_) ?_
        rotate_left
        · injection hop with hop
          subst hop
          refine ⟨rfl, fun W hW => ?_⟩
          obtain ⟨s0, s1, s2⟩ := hW
          go_simp
          first
          | rfl
          | (constructor <;> rfl)
          | rw [if_neg (by omega)]
        try simp only [Act.put, List.setIfInBounds_toArray, List.set_cons_zero, List.set_cons_succ]
        refine wpAnyD_takeAt 4 (some 19) (v := ?_) rfl (by kernel_rfl) (by kernel_rfl) (by kernel_rfl) (by kernel_rfl) (by kernel_rfl) (fun _ _ _ h => h) (by exact ⟨k3, k0, kr⟩) (fun o hop => ?_) ?_
        rotate_left
        · injection hop with hop
          subst hop
          refine ⟨rfl, fun W hW => ?_⟩
          obtain ⟨s0, s1, s2⟩ := hW
          go_simp
          first
          | rfl
          | (constructor <;> rfl)
          | rw [if_neg (by omega)]
        try simp only [Act.put, List.setIfInBounds_toArray, List.set_cons_zero, List.set_cons_succ]
        refine wpAnyD_takeAt 5 (some 20) (v := ?_) rfl (by kernel_rfl) (by kernel_rfl) (by kernel_rfl) (by kernel_rfl) (by kernel_rfl) (fun _ _ _ h => h) (by exact ⟨k3, k0, kr⟩) (fun o hop => ?_) ?_
        rotate_left
        · injection hop with hop
          subst hop
          refine ⟨rfl, fun W hW => ?_⟩
          obtain ⟨s0, s1, s2⟩ := hW
          go_simp
          first
          | rfl
          | (constructor <;> rfl)
          | rw [if_neg (by omega)]
        try simp only [Act.put, List.setIfInBounds_toArray, List.set_cons_zero, List.set_cons_succ]
        refine wpAnyD_takeAt 6 (some 21) (v := ?_) rfl (by kernel_rfl) (by kernel_rfl) (by kernel_rfl) (by kernel_rfl) (by kernel_rfl) (fun _ _ _ h => h) (by exact ⟨k3, k0, kr⟩) (fun o hop => ?_) ?_
        rotate_left
        · injection hop with hop
          subst hop
          refine ⟨rfl, fun W hW => ?_⟩
          obtain ⟨s0, s1, s2⟩ := hW
          go_simp
          first
          | rfl
          | (constructor <;> rfl)
          | rw [if_neg (by omega)]
        try simp only [Act.put, List.setIfInBounds_toArray, List.set_cons_zero, List.set_cons_succ]
        refine wpAnyD_takeAt 7 (some 22) (v := ?_) rfl (by kernel_rfl) (by kernel_rfl) (by kernel_rfl) (by kernel_rfl) (by kernel_rfl) (fun _ _ _ h => h) (by exact ⟨k3, k0, kr⟩) (fun o hop => ?_) ?_
        rotate_left
        · injection hop with hop
          subst hop
          refine ⟨rfl, fun W hW => ?_⟩
          obtain ⟨s0, s1, s2⟩ := hW
          go_simp
          first
          | rfl
          | (constructor <;> rfl)
          | rw [if_neg (by omega)]
        try simp only [Act.put, List.setIfInBounds_toArray, List.set_cons_zero, List.set_cons_succ]
        refine wpAnyD_takeAt 8 (some 23) (v := ?_) rfl (by kernel_rfl) (by kernel_rfl) (by kernel_rfl) (by kernel_rfl) (by kernel_rfl) (fun _ _ _ h => h) (by exact ⟨k3, k0, kr⟩) (fun o hop => ?_) ?_
        rotate_left
        · injection hop with hop
          subst hop
          refine ⟨rfl, fun W hW => ?_⟩
          obtain ⟨s0, s1, s2⟩ := hW
          go_simp
          first
          | rfl
          | (constructor <;> rfl)
          | rw [if_neg (by omega)]
        try simp only [Act.put, List.setIfInBounds_toArray, List.set_cons_zero, List.set_cons_succ]
        refine wpAnyD_takeAt 9 (some 24) (v := ?_) rfl (by kernel_rfl) (by kernel_rfl) (by kernel_rfl) (by kernel_rfl) (by kernel_rfl) (fun _ _ _ h => h) (by exact ⟨k3, k0, kr⟩) (fun o hop => ?_) ?_
        rotate_left
        · injection hop with hop
          subst hop
          refine ⟨rfl, fun W hW => ?_⟩
          obtain ⟨s0, s1, s2⟩ := hW
          go_simp
          first
          | rfl
          | (constructor <;> rfl)
          | rw [if_neg (by omega)]
        try simp only [Act.put, List.setIfInBounds_toArray, List.set_cons_zero, List.set_cons_succ]
        refine wpAnyD_takeAt 10 (some 25) (v := ?_) rfl (by kernel_rfl) (by kernel_rfl) (by kernel_rfl) (by kernel_rfl) (by kernel_rfl) (fun _ _ _ h => h) (by exact ⟨k3, k0, kr⟩) (fun o hop => ?_) ?_
        rotate_left
        · injection hop with hop
          subst hop
          refine ⟨rfl, fun W hW => ?_⟩
          obtain ⟨s0, s1, s2⟩ := hW
          go_simp
          first
          | rfl
          | (constructor <;> rfl)
          | rw [if_neg (by omega)]
        try simp only [Act.put, List.setIfInBounds_toArray, List.set_cons_zero, List.set_cons_succ]
        have t0 := frozen_no hzs 0
        have g0 : zz.cell? ⟨S, 0, none⟩ = some (.int .i64 v0) := (cells_at hzs 0).trans rfl
        refine wpAnyT_one (i := 11) (by kernel_rfl) rfl rfl (fun K' hK => ?_)
        go_simp
        refine hK.out _ _ (fun h => absurd rfl h) ?_
        clear hK K'
        refine wpAnyT_done (by kernel_rfl) ?_ _
        have HF : Hid (∀ x, Bt [S] w1 (zz.setCell ⟨S, 0, none⟩ x) ∧ (zz.setCell ⟨S, 0, none⟩ x).heap[S]? = some (.cells (#[.int .i64 v0, .int .i64 v1].setIfInBounds 0 x) 117 (0, 0))) := fun x => ⟨hbt.set (List.mem_cons_self ..) _ _, set_any hzs 0 x⟩
        clear hbt hzs k3 k0 kr t0 g0
        go_wp2_with fail
        go_roundw
        case rel => exact ⟨1, by go_num, by omega, (HF.out _).1, by rw [(HF.out _).2, HV.out, ← HFO.out]; rfl⟩
        case measure => simp [intOf]; omega
      · simp only [Nat.one_mul] at c0 c1 c2 c3 c4
        have hwr : IntKind.i64.wrap (a1 - (lkD ls 1).least) = a1 - (lkD ls 1).least := Go.IntWalk.i64_in _ (by have := ok.l; have := ok.s; have := ok.m; have := ok.x; omega)
        clear ok
        go_upto_region 4 with fail
        have hqk := alloc_new wr (.cells #[.int .i64 (lkD ls 1).least, .int .i64 (lkD ls 1).most, .int .i64 (lkD ls 1).start, .int .i64 (lkD ls 1).turb, .int .i64 (lkD ls 1).worth] 71)
        have HZ := hide' (⟨HW.out.1.al (.cells #[.int .i64 (lkD ls 1).least, .int .i64 (lkD ls 1).most, .int .i64 (lkD ls 1).start, .int .i64 (lkD ls 1).turb, .int .i64 (lkD ls 1).worth] 71), (alloc_old wr _ (lt_heap HW.out.2)).trans HW.out.2⟩ : Bt [S] w1 (wr.alloc (.cells #[.int .i64 (lkD ls 1).least, .int .i64 (lkD ls 1).most, .int .i64 (lkD ls 1).start, .int .i64 (lkD ls 1).turb, .int .i64 (lkD ls 1).worth] 71)) ∧ (wr.alloc (.cells #[.int .i64 (lkD ls 1).least, .int .i64 (lkD ls 1).most, .int .i64 (lkD ls 1).start, .int .i64 (lkD ls 1).turb, .int .i64 (lkD ls 1).worth] 71)).heap[S]? = some (.cells #[.int .i64 v0, .int .i64 v1] 117 (0, 0)))
        obtain ⟨z, hz⟩ : ∃ x, x = wr.alloc (.cells #[.int .i64 (lkD ls 1).least, .int .i64 (lkD ls 1).most, .int .i64 (lkD ls 1).start, .int .i64 (lkD ls 1).turb, .int .i64 (lkD ls 1).worth] 71) := ⟨_, rfl⟩
        rw [← hz] at hqk HZ ⊢
        obtain ⟨K, hK⟩ : ∃ x, x = wr.heap.size := ⟨_, rfl⟩
        rw [← hK] at hqk
        rw [show (Value.pointer (some { block := wr.heap.size, off := 0 })) = Value.pointer (some { block := K, off := 0 }) by rw [hK]]
        obtain ⟨tt, htt⟩ : ∃ x, x = (lkD ls 1).turb := ⟨_, rfl⟩
        obtain ⟨le, hle⟩ : ∃ x, x = (lkD ls 1).least := ⟨_, rfl⟩
        have HFO : Hid (freeOf (lkD ls 1) a1 = if a1 - le < tt then a1 - le else tt) := by rw [htt, hle]; rfl
        rw [← htt, ← hle] at hqk
        rw [← hle] at hwr
        have q3 : z.drew.cell? ⟨K, 3, none⟩ = some (.int .i64 tt) := (cells_at (w := z.drew) hqk 3).trans rfl
        have q0 : z.drew.cell? ⟨K, 0, none⟩ = some (.int .i64 le) := (cells_at (w := z.drew) hqk 0).trans rfl
        have qr : z.drew.cell? ⟨R, 1, none⟩ = some (.int .i64 a1) := (cells_at (w := z.drew) (HZ.out.1.keep HQR.out (by have := HNE.out.2.2.2.2.2; simp; omega)) 1).trans rfl
        simp only [← htt, ← hle]
        clear hqk hz hK htt hle HW c0 c1 c2 c3 c4
        refine wp_region_tail (fun W => W.cell? ⟨K, 3, none⟩ = some (.int .i64 tt) ∧ W.cell? ⟨K, 0, none⟩ = some (.int .i64 le) ∧ W.cell? ⟨R, 1, none⟩ = some (.int .i64 a1)) 11 (by kernel_rfl) ?_
        refine wpAnyT_letter (fun W => Bt [S] w1 W ∧ W.heap[S]? = some (.cells #[.int .i64 v0, .int .i64 v1] 117 (0, 0)) ∧ W.cell? ⟨K, 3, none⟩ = some (.int .i64 tt) ∧ W.cell? ⟨K, 0, none⟩ = some (.int .i64 le) ∧ W.cell? ⟨R, 1, none⟩ = some (.int .i64 a1)) ⟨HZ.out.1.drew, HZ.out.2, q3, q0, qr⟩ ?_
        clear HZ q3 q0 qr
        rintro zz ⟨hbt, hzs, k3, k0, kr⟩
        refine wpAnyD_takeAt 0 (some 15) (v := ?_) rfl (by kernel_rfl) (by kernel_rfl) (by kernel_rfl) (by kernel_rfl) (by kernel_rfl) (fun _ _ _ h => h) (by exact ⟨k3, k0, kr⟩) (fun o hop => ?_) ?_
        rotate_left
        · injection hop with hop
          subst hop
          refine ⟨rfl, fun W hW => ?_⟩
          obtain ⟨s0, s1, s2⟩ := hW
          go_simp
          first
          | rfl
          | (constructor <;> rfl)
          | rw [if_neg (by omega)]
        try simp only [Act.put, List.setIfInBounds_toArray, List.set_cons_zero, List.set_cons_succ]
        refine wpAnyD_takeAt 1 (some 16) (v := ?_) rfl (by kernel_rfl) (by kernel_rfl) (by kernel_rfl) (by kernel_rfl) (by kernel_rfl) (fun _ _ _ h => h) (by exact ⟨k3, k0, kr⟩) (fun o hop => ?_) ?_
        rotate_left
        · injection hop with hop
          subst hop
          refine ⟨rfl, fun W hW => ?_⟩
          obtain ⟨s0, s1, s2⟩ := hW
          go_simp
          first
          | rfl
          | (constructor <;> rfl)
          | rw [if_neg (by omega)]
        try simp only [Act.put, List.setIfInBounds_toArray, List.set_cons_zero, List.set_cons_succ]
        refine wpAnyD_takeAt 2 (some 17) (v := ?_) rfl (by kernel_rfl) (by kernel_rfl) (by kernel_rfl) (by kernel_rfl) (by kernel_rfl) (fun _ _ _ h => h) (by exact ⟨k3, k0, kr⟩) (fun o hop => ?_) ?_
        rotate_left
        · injection hop with hop
          subst hop
          refine ⟨rfl, fun W hW => ?_⟩
          obtain ⟨s0, s1, s2⟩ := hW
          go_simp
          first
          | rfl
          | (constructor <;> rfl)
          | rw [if_neg (by omega)]
        try simp only [Act.put, List.setIfInBounds_toArray, List.set_cons_zero, List.set_cons_succ]
        refine wpAnyD_takeAt 3 (some 18) (v := ?_) rfl (by kernel_rfl) (by kernel_rfl) (by kernel_rfl) (by kernel_rfl) (by kernel_rfl) (fun _ _ _ h => h) (by exact ⟨k3, k0, kr⟩) (fun o hop => ?_) ?_
        rotate_left
        · injection hop with hop
          subst hop
          refine ⟨rfl, fun W hW => ?_⟩
          obtain ⟨s0, s1, s2⟩ := hW
          go_simp
          first
          | rfl
          | (constructor <;> rfl)
          | rw [if_neg (by omega)]
        try simp only [Act.put, List.setIfInBounds_toArray, List.set_cons_zero, List.set_cons_succ]
        refine wpAnyD_takeAt 4 (some 19) (v := ?_) rfl (by kernel_rfl) (by kernel_rfl) (by kernel_rfl) (by kernel_rfl) (by kernel_rfl) (fun _ _ _ h => h) (by exact ⟨k3, k0, kr⟩) (fun o hop => ?_) ?_
        rotate_left
        · injection hop with hop
          subst hop
          refine ⟨rfl, fun W hW => ?_⟩
          obtain ⟨s0, s1, s2⟩ := hW
          go_simp
          first
          | rfl
          | (constructor <;> rfl)
          | rw [if_neg (by omega)]
        try simp only [Act.put, List.setIfInBounds_toArray, List.set_cons_zero, List.set_cons_succ]
        refine wpAnyD_takeAt 5 (some 20) (v := ?_) rfl (by kernel_rfl) (by kernel_rfl) (by kernel_rfl) (by kernel_rfl) (by kernel_rfl) (fun _ _ _ h => h) (by exact ⟨k3, k0, kr⟩) (fun o hop => ?_) ?_
        rotate_left
        · injection hop with hop
          subst hop
          refine ⟨rfl, fun W hW => ?_⟩
          obtain ⟨s0, s1, s2⟩ := hW
          go_simp
          first
          | rfl
          | (constructor <;> rfl)
          | rw [if_neg (by omega)]
        try simp only [Act.put, List.setIfInBounds_toArray, List.set_cons_zero, List.set_cons_succ]
        refine wpAnyD_takeAt 6 (some 21) (v := ?_) rfl (by kernel_rfl) (by kernel_rfl) (by kernel_rfl) (by kernel_rfl) (by kernel_rfl) (fun _ _ _ h => h) (by exact ⟨k3, k0, kr⟩) (fun o hop => ?_) ?_
        rotate_left
        · injection hop with hop
          subst hop
          refine ⟨rfl, fun W hW => ?_⟩
          obtain ⟨s0, s1, s2⟩ := hW
          go_simp
          first
          | rfl
          | (constructor <;> rfl)
          | rw [if_neg (by omega)]
        try simp only [Act.put, List.setIfInBounds_toArray, List.set_cons_zero, List.set_cons_succ]
        refine wpAnyD_takeAt 7 (some 22) (v := ?_) rfl (by kernel_rfl) (by kernel_rfl) (by kernel_rfl) (by kernel_rfl) (by kernel_rfl) (fun _ _ _ h => h) (by exact ⟨k3, k0, kr⟩) (fun o hop => ?_) ?_
        rotate_left
        · injection hop with hop
          subst hop
          refine ⟨rfl, fun W hW => ?_⟩
          obtain ⟨s0, s1, s2⟩ := hW
          go_simp
          first
          | rfl
          | (constructor <;> rfl)
          | rw [if_neg (by omega)]
        try simp only [Act.put, List.setIfInBounds_toArray, List.set_cons_zero, List.set_cons_succ]
        refine wpAnyD_takeAt 8 (some 23) (v := ?_) rfl (by kernel_rfl) (by kernel_rfl) (by kernel_rfl) (by kernel_rfl) (by kernel_rfl) (fun _ _ _ h => h) (by exact ⟨k3, k0, kr⟩) (fun o hop => ?_) ?_
        rotate_left
        · injection hop with hop
          subst hop
          refine ⟨rfl, fun W hW => ?_⟩
          obtain ⟨s0, s1, s2⟩ := hW
          go_simp
          first
          | rfl
          | (constructor <;> rfl)
          | rw [if_neg (by omega)]
        try simp only [Act.put, List.setIfInBounds_toArray, List.set_cons_zero, List.set_cons_succ]
        refine wpAnyD_takeAt 9 (some 24) (v := ?_) rfl (by kernel_rfl) (by kernel_rfl) (by kernel_rfl) (by kernel_rfl) (by kernel_rfl) (fun _ _ _ h => h) (by exact ⟨k3, k0, kr⟩) (fun o hop => ?_) ?_
        rotate_left
        · injection hop with hop
          subst hop
          refine ⟨rfl, fun W hW => ?_⟩
          obtain ⟨s0, s1, s2⟩ := hW
          go_simp
          first
          | rfl
          | (constructor <;> rfl)
          | rw [if_neg (by omega)]
        try simp only [Act.put, List.setIfInBounds_toArray, List.set_cons_zero, List.set_cons_succ]
        refine wpAnyD_takeAt 10 (some 25) (v := ?_) rfl (by kernel_rfl) (by kernel_rfl) (by kernel_rfl) (by kernel_rfl) (by kernel_rfl) (fun _ _ _ h => h) (by exact ⟨k3, k0, kr⟩) (fun o hop => ?_) ?_
        rotate_left
        · injection hop with hop
          subst hop
          refine ⟨rfl, fun W hW => ?_⟩
          obtain ⟨s0, s1, s2⟩ := hW
          go_simp
          first
          | rfl
          | (constructor <;> rfl)
          | rw [if_neg (by omega)]
        try simp only [Act.put, List.setIfInBounds_toArray, List.set_cons_zero, List.set_cons_succ]
        have t0 := frozen_no hzs 1
        have g0 : zz.cell? ⟨S, 1, none⟩ = some (.int .i64 v1) := (cells_at hzs 1).trans rfl
        refine wpAnyT_one (i := 11) (by kernel_rfl) rfl rfl (fun K' hK => ?_)
        go_simp
        refine hK.out _ _ (fun h => absurd rfl h) ?_
        clear hK K'
        refine wpAnyT_done (by kernel_rfl) ?_ _
        have HF : Hid (∀ x, Bt [S] w1 (zz.setCell ⟨S, 1, none⟩ x) ∧ (zz.setCell ⟨S, 1, none⟩ x).heap[S]? = some (.cells (#[.int .i64 v0, .int .i64 v1].setIfInBounds 1 x) 117 (0, 0))) := fun x => ⟨hbt.set (List.mem_cons_self ..) _ _, set_any hzs 1 x⟩
        clear hbt hzs k3 k0 kr t0 g0
        go_wp2_with fail
        go_roundw
        case rel => exact ⟨2, by go_num, by omega, (HF.out _).1, by rw [(HF.out _).2, HV.out, ← HFO.out]; rfl⟩
        case measure => simp [intOf]; omega
    · obtain rfl : k = L := by omega
      have y0 : wr.cell? ⟨S, 0, none⟩ = some (.int .i64 v0) := (cells_at HW.out.2 0).trans rfl
      have y1 : wr.cell? ⟨S, 1, none⟩ = some (.int .i64 v1) := (cells_at HW.out.2 1).trans rfl
      have t0 := frozen_no HW.out.2 0
      have t1 := frozen_no HW.out.2 1
      have HFI := hide' (set_two HW.out.2 (.int .i64 v0) (.int .i64 v1))
      have HBI : Hid (Below w.heap.size w ((wr.setCell ⟨S, 0, none⟩ (.int .i64 v0)).setCell ⟨S, 1, none⟩ (.int .i64 v1))) := ((HW.out.1.set (List.mem_cons_self ..) _ _).set (List.mem_cons_self ..) _ _).below HB1.out (Nat.le_refl _) (fun m hm => by rw [List.mem_singleton.1 hm]; exact HNE.out.2.2.1)
      clear HW
      go_wp2_with fail
      refine bodyPost_ret (results_cell_row rfl _ _ S 117 _ (0, 0) _ rfl HFI.out Try.underlying117 rfl (by kernel_rfl)) rfl ?_
      exact ⟨by rw [HV.out], HBI.out⟩
end Go.Proofs.Ytnhddmcdmcpkeaj
