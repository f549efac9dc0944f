/- fill. -/
import Derived.Test.YtnhddmcdmcpkeajW4
namespace Go.Proofs.Ytnhddmcdmcpkeaj
open Go.RowKit Go.Shelf

def fillOf (rr : List Int) (l w : Int) (i : Nat) : Int := l + (rr.getD i 0 + w)
def fillA (rr : List Int) (l0 l1 u0 u1 : Int) (k : Nat) : Array Value := #[.int .i64 (if 0 < k then fillOf rr l0 u0 0 else l0), .int .i64 (if 1 < k then fillOf rr l1 u1 1 else l1), .int .i64 u0, .int .i64 u1]
def fillV (rr : List Int) (l0 l1 u0 u1 : Int) (k : Nat) : Array Value := #[.int .i64 (if 0 < k then fillOf rr l0 u0 0 else l0), .int .i64 (if 1 < k then fillOf rr l1 u1 1 else l1)]
set_option maxRecDepth 100000 in
set_option maxHeartbeats 2000000 in
theorem fill_any (t : List (List Int)) (h : Nat) (hh : h < t.length) (L : Nat) (hl : (t[h]).length = L) (hin : ∀ x ∈ t[h], 0 ≤ x ∧ x ≤ 10) (vl : Value) (ai : Option Addr) (H ci : Nat) (hH : t.length = H) (l0 l1 u0 u1 : Int) (w : World) (hx : TabAt w (.slice ai H ci) t) (hL : L ≤ 2) (hb : (-1000 ≤ l0 ∧ l0 ≤ 1000 ∧ -1000 ≤ l1 ∧ l1 ≤ 1000) ∧ (-1000 ≤ u0 ∧ u0 ≤ 1000 ∧ -1000 ≤ u1 ∧ u1 ≤ 1000)) : Calls Try.prog 62 #[.agg #[vl, .slice ai H ci], .agg #[.int .i64 l0, .int .i64 l1, .int .i64 u0, .int .i64 u1], .int .i64 (h : Int)] w fun e w' => e = .returned (.agg (fillV t[h] l0 l1 u0 u1 L)) ∧ Below w.heap.size w w' := by
  have HX := hide' hx
  obtain ⟨b, off, c, a2, c2, ex, hcell, hrow⟩ := hx.cell h hh
  simp only [Value.slice.injEq] at ex
  obtain ⟨rfl, hc0, rfl⟩ := ex
  clear hc0
  obtain ⟨rr, hrr⟩ : ∃ x, x = t[h] := ⟨_, rfl⟩
  rw [← hrr] at hin hl hcell hrow ⊢
  rw [hl] at hcell hrow
  have HRW := hide' hrow
  have HCL := hide' hcell
  have HBT := hide' (World.block_lt_of_cell? w _ hcell)
  have HIN : Hid (∀ k, k < L → 0 ≤ rr.getD k 0 ∧ rr.getD k 0 ≤ 10) := fun k hk => hin _ (by rw [List.getD_eq_getElem?_getD, List.getElem?_eq_getElem (by omega)]; exact List.getElem_mem _)
  have HLR := hide' hl
  rw [hH] at hh
  clear hx hrr hrow hcell hin hl hH HX
  go_enter Try.func62, Try.ntmps62
  go_upto_region 1 with fail
  have hqB := (alloc_old ((w.alloc (.cells #[vl, .slice (some ⟨b, off, none⟩) H ci] 75)).alloc (.cells #[.int .i64 l0, .int .i64 l1, .int .i64 u0, .int .i64 u1] 119)) (.cells #[.int .i64 0, .int .i64 0] 117) (lt_heap ((alloc_old (w.alloc (.cells #[vl, .slice (some ⟨b, off, none⟩) H ci] 75)) (.cells #[.int .i64 l0, .int .i64 l1, .int .i64 u0, .int .i64 u1] 119) (lt_heap (alloc_new w (.cells #[vl, .slice (some ⟨b, off, none⟩) H ci] 75)))).trans (alloc_new w (.cells #[vl, .slice (some ⟨b, off, none⟩) H ci] 75))))).trans ((alloc_old (w.alloc (.cells #[vl, .slice (some ⟨b, off, none⟩) H ci] 75)) (.cells #[.int .i64 l0, .int .i64 l1, .int .i64 u0, .int .i64 u1] 119) (lt_heap (alloc_new w (.cells #[vl, .slice (some ⟨b, off, none⟩) H ci] 75)))).trans (alloc_new w (.cells #[vl, .slice (some ⟨b, off, none⟩) H ci] 75)))
  have hqS := (alloc_old ((w.alloc (.cells #[vl, .slice (some ⟨b, off, none⟩) H ci] 75)).alloc (.cells #[.int .i64 l0, .int .i64 l1, .int .i64 u0, .int .i64 u1] 119)) (.cells #[.int .i64 0, .int .i64 0] 117) (lt_heap (alloc_new (w.alloc (.cells #[vl, .slice (some ⟨b, off, none⟩) H ci] 75)) (.cells #[.int .i64 l0, .int .i64 l1, .int .i64 u0, .int .i64 u1] 119)))).trans (alloc_new (w.alloc (.cells #[vl, .slice (some ⟨b, off, none⟩) H ci] 75)) (.cells #[.int .i64 l0, .int .i64 l1, .int .i64 u0, .int .i64 u1] 119))
  have hqV := alloc_new ((w.alloc (.cells #[vl, .slice (some ⟨b, off, none⟩) H ci] 75)).alloc (.cells #[.int .i64 l0, .int .i64 l1, .int .i64 u0, .int .i64 u1] 119)) (.cells #[.int .i64 0, .int .i64 0] 117)
  have hb1 := ((below_al w (.cells #[vl, .slice (some ⟨b, off, none⟩) H ci] 75)).alloc (below_al w (.cells #[vl, .slice (some ⟨b, off, none⟩) H ci] 75)).size (.cells #[.int .i64 l0, .int .i64 l1, .int .i64 u0, .int .i64 u1] 119)).alloc ((below_al w (.cells #[vl, .slice (some ⟨b, off, none⟩) H ci] 75)).alloc (below_al w (.cells #[vl, .slice (some ⟨b, off, none⟩) H ci] 75)).size (.cells #[.int .i64 l0, .int .i64 l1, .int .i64 u0, .int .i64 u1] 119)).size (.cells #[.int .i64 0, .int .i64 0] 117)
  rw [show (w.alloc (.cells #[vl, .slice (some ⟨b, off, none⟩) H ci] 75)).heap.size = w.heap.size + 1 from by simp only [World.size_alloc]] at hqS
  rw [show ((w.alloc (.cells #[vl, .slice (some ⟨b, off, none⟩) H ci] 75)).alloc (.cells #[.int .i64 l0, .int .i64 l1, .int .i64 u0, .int .i64 u1] 119)).heap.size = w.heap.size + 1 + 1 from by simp only [World.size_alloc]] at hqV
  obtain ⟨w1, hw1⟩ : ∃ x, x = (((w.alloc (.cells #[vl, .slice (some ⟨b, off, none⟩) H ci] 75)).alloc (.cells #[.int .i64 l0, .int .i64 l1, .int .i64 u0, .int .i64 u1] 119)).alloc (.cells #[.int .i64 0, .int .i64 0] 117)) := ⟨_, rfl⟩
  rw [← hw1] at hqB hqS hqV hb1 ⊢
  obtain ⟨B, hnB⟩ : ∃ x, x = w.heap.size := ⟨_, rfl⟩
  obtain ⟨S, hnS⟩ : ∃ x, x = w.heap.size + 1 := ⟨_, rfl⟩
  obtain ⟨V, hnV⟩ : ∃ x, x = w.heap.size + 1 + 1 := ⟨_, rfl⟩
  have HNE : Hid (w.heap.size ≤ B ∧ w.heap.size ≤ S ∧ w.heap.size ≤ V ∧ B ≠ S ∧ B ≠ V ∧ S ≠ V) := ⟨by omega, by omega, by omega, by omega, by omega, by omega⟩
  rw [← hnB] at hqB
  rw [← hnS] at hqS
  rw [← hnV] at hqV
  rw [show (Value.pointer (some { block := w.heap.size, off := 0 })) = Value.pointer (some { block := B, off := 0 }) by rw [hnB], show (Value.pointer (some { block := w.heap.size + 1, off := 0 })) = Value.pointer (some { block := S, off := 0 }) by rw [hnS], show (Value.pointer (some { block := w.heap.size + 1 + 1, off := 0 })) = Value.pointer (some { block := V, off := 0 }) by rw [hnV]]
  have HQB := hide' hqB
  have HQS := hide' hqS
  have HQV := hide' hqV
  have HB1 := hide' hb1
  clear hqB hqS hqV hb1 hw1 hnB hnS hnV
  have y0 : w1.cell? ⟨B, 1, none⟩ = some (.slice (some ⟨b, off, none⟩) H ci) := (cells_at HQB.out 1).trans rfl
  have y1 : w1.cell? ⟨b, off + h, none⟩ = some (.slice a2 L c2) := up_cell HB1.out HCL.out
  go_wp2_with fail
  clear y0 y1
  go_loopw [15] (fun i wr => ∃ (k : Nat), i = .int .i64 k ∧ k ≤ L ∧ Hid (Bt [S] w1 wr ∧ wr.heap[S]? = some (.cells (fillA rr l0 l1 u0 u1 k) 119 (0, 0)))) (fun i _ => L - (intOf i).toNat)
  case atStart => exact ⟨0, rfl, Nat.zero_le _, Bt.refl _ _, HQS.out⟩
  case round =>
    obtain ⟨k, rfl, hk, HW⟩ := hrel
    have hbd : ∃ v0 v1 : Int, fillA rr l0 l1 u0 u1 k = #[.int .i64 v0, .int .i64 v1, .int .i64 u0, .int .i64 u1] ∧ (k = 0 → v0 = l0) ∧ (k ≤ 1 → v1 = l1) := ⟨_, _, rfl, fun e => by subst e; rfl, fun e => if_neg (by omega)⟩
    obtain ⟨v0, v1, hA, e0, e1⟩ := hbd
    have HV := hide' hA.symm
    rw [hA] at HW
    clear hA
    by_cases hlt : k < L
    · obtain ⟨rb, ro, rc, ex, hrc⟩ := ints_cell2 HRW.out k (by rw [HLR.out]; exact hlt)
      simp only [Value.slice.injEq] at ex
      obtain ⟨rfl, hc0, rfl⟩ := ex
      clear hc0
      have hrb := World.block_lt_of_cell? w _ hrc
      have c0 := HW.out.1.cell (up_cell HB1.out hrc) (by have := HNE.out.2.1; have : rb < w.heap.size := hrb; simp; omega)
      have hxb := HIN.out k hlt
      have hk2 : k = 0 ∨ k = 1 := by omega
      obtain ⟨x, hxx⟩ : ∃ x, x = rr.getD k 0 := ⟨_, rfl⟩
      rw [← hxx] at c0 hxb
      clear hrc hrb
      rcases hk2 with rfl | rfl
      · obtain rfl := e0 rfl
        obtain rfl := e1 (by omega)
        have HFO : Hid (fillOf rr v0 u0 0 = v0 + (x + u0)) := by rw [hxx]; rfl
        clear hxx e0 e1
        simp only [Nat.add_zero] at c0
        have hwa : IntKind.i64.wrap (x + u0) = x + u0 := Go.IntWalk.i64_in _ (by omega)
        have hwb : IntKind.i64.wrap (v0 + (x + u0)) = v0 + (x + u0) := Go.IntWalk.i64_in _ (by omega)
        go_upto_region 4 with fail
        refine wp_region_tail (fun W => W.cell? ⟨S, 0, none⟩ = some (.int .i64 v0) ∧ W.cell? ⟨S, 2, none⟩ = some (.int .i64 u0)) 13 (by kernel_rfl) ?_
        refine wpAnyT_letter (fun W => Bt [S] w1 W ∧ W.heap[S]? = some (.cells #[.int .i64 v0, .int .i64 v1, .int .i64 u0, .int .i64 u1] 119 (0, 0))) ⟨HW.out.1.drew, HW.out.2⟩ ?_
        clear HW
        rintro zz ⟨hbt, hzs⟩
        have k0 : zz.cell? ⟨S, 0, none⟩ = some (.int .i64 v0) := (cells_at hzs 0).trans rfl
        have k1 : zz.cell? ⟨S, 2, none⟩ = some (.int .i64 u0) := (cells_at hzs 2).trans rfl
        refine wpAnyD_takeAt 0 (some 20) (v := ?_) rfl (by kernel_rfl) (by kernel_rfl) (by kernel_rfl) (by kernel_rfl) (by kernel_rfl) (fun _ _ _ h => h) (by exact ⟨k0, k1⟩) (fun o hop => ?_) ?_
        rotate_left
        · injection hop with hop
          subst hop
          refine ⟨rfl, fun W hW => ?_⟩
          obtain ⟨s0, s1⟩ := hW
          go_simp
          first
          | rfl
          | (constructor <;> rfl)
          | rw [if_neg (by omega)]
        try simp only [Act.put, List.setIfInBounds_toArray, List.set_cons_zero, List.set_cons_succ]
        refine wpAnyD_takeAt 1 (some 21) (v := ?_) rfl (by kernel_rfl) (by kernel_rfl) (by kernel_rfl) (by kernel_rfl) (by kernel_rfl) (fun _ _ _ h => h) (by exact ⟨k0, k1⟩) (fun o hop => ?_) ?_
        rotate_left
        · injection hop with hop
          subst hop
          refine ⟨rfl, fun W hW => ?_⟩
          obtain ⟨s0, s1⟩ := hW
          go_simp
          first
          | rfl
          | (constructor <;> rfl)
          | rw [if_neg (by omega)]
        try simp only [Act.put, List.setIfInBounds_toArray, List.set_cons_zero, List.set_cons_succ]
        refine wpAnyD_takeAt 2 (some 22) (v := ?_) rfl (by kernel_rfl) (by kernel_rfl) (by kernel_rfl) (by kernel_rfl) (by kernel_rfl) (fun _ _ _ h => h) (by exact ⟨k0, k1⟩) (fun o hop => ?_) ?_
        rotate_left
        · injection hop with hop
          subst hop
          refine ⟨rfl, fun W hW => ?_⟩
          obtain ⟨s0, s1⟩ := hW
          go_simp
          first
          | rfl
          | (constructor <;> rfl)
          | rw [if_neg (by omega)]
        try simp only [Act.put, List.setIfInBounds_toArray, List.set_cons_zero, List.set_cons_succ]
        refine wpAnyD_takeAt 3 (some 23) (v := ?_) rfl (by kernel_rfl) (by kernel_rfl) (by kernel_rfl) (by kernel_rfl) (by kernel_rfl) (fun _ _ _ h => h) (by exact ⟨k0, k1⟩) (fun o hop => ?_) ?_
        rotate_left
        · injection hop with hop
          subst hop
          refine ⟨rfl, fun W hW => ?_⟩
          obtain ⟨s0, s1⟩ := hW
          go_simp
          first
          | rfl
          | (constructor <;> rfl)
          | rw [if_neg (by omega)]
        try simp only [Act.put, List.setIfInBounds_toArray, List.set_cons_zero, List.set_cons_succ]
        refine wpAnyD_takeAt 4 (some 24) (v := ?_) rfl (by kernel_rfl) (by kernel_rfl) (by kernel_rfl) (by kernel_rfl) (by kernel_rfl) (fun _ _ _ h => h) (by exact ⟨k0, k1⟩) (fun o hop => ?_) ?_
        rotate_left
        · injection hop with hop
          subst hop
          refine ⟨rfl, fun W hW => ?_⟩
          obtain ⟨s0, s1⟩ := hW
          go_simp
          first
          | rfl
          | (constructor <;> rfl)
          | rw [if_neg (by omega)]
        try simp only [Act.put, List.setIfInBounds_toArray, List.set_cons_zero, List.set_cons_succ]
        refine wpAnyD_takeAt 5 (some 25) (v := ?_) rfl (by kernel_rfl) (by kernel_rfl) (by kernel_rfl) (by kernel_rfl) (by kernel_rfl) (fun _ _ _ h => h) (by exact ⟨k0, k1⟩) (fun o hop => ?_) ?_
        rotate_left
        · injection hop with hop
          subst hop
          refine ⟨rfl, fun W hW => ?_⟩
          obtain ⟨s0, s1⟩ := hW
          go_simp
          first
          | rfl
          | (constructor <;> rfl)
          | rw [if_neg (by omega)]
        try simp only [Act.put, List.setIfInBounds_toArray, List.set_cons_zero, List.set_cons_succ]
        refine wpAnyD_takeAt 6 (some 26) (v := ?_) rfl (by kernel_rfl) (by kernel_rfl) (by kernel_rfl) (by kernel_rfl) (by kernel_rfl) (fun _ _ _ h => h) (by exact ⟨k0, k1⟩) (fun o hop => ?_) ?_
        rotate_left
        · injection hop with hop
          subst hop
          refine ⟨rfl, fun W hW => ?_⟩
          obtain ⟨s0, s1⟩ := hW
          go_simp
          first
          | rfl
          | (constructor <;> rfl)
          | rw [if_neg (by omega)]
        try simp only [Act.put, List.setIfInBounds_toArray, List.set_cons_zero, List.set_cons_succ]
        refine wpAnyD_takeAt 7 (some 27) (v := ?_) rfl (by kernel_rfl) (by kernel_rfl) (by kernel_rfl) (by kernel_rfl) (by kernel_rfl) (fun _ _ _ h => h) (by exact ⟨k0, k1⟩) (fun o hop => ?_) ?_
        rotate_left
        · injection hop with hop
          subst hop
          refine ⟨rfl, fun W hW => ?_⟩
          obtain ⟨s0, s1⟩ := hW
          go_simp
          first
          | rfl
          | (constructor <;> rfl)
          | rw [if_neg (by omega)]
        try simp only [Act.put, List.setIfInBounds_toArray, List.set_cons_zero, List.set_cons_succ]
        refine wpAnyD_takeAt 8 (some 28) (v := ?_) rfl (by kernel_rfl) (by kernel_rfl) (by kernel_rfl) (by kernel_rfl) (by kernel_rfl) (fun _ _ _ h => h) (by exact ⟨k0, k1⟩) (fun o hop => ?_) ?_
        rotate_left
        · injection hop with hop
          subst hop
          refine ⟨rfl, fun W hW => ?_⟩
          obtain ⟨s0, s1⟩ := hW
          go_simp
          first
          | rfl
          | (constructor <;> rfl)
          | rw [if_neg (by omega)]
        try simp only [Act.put, List.setIfInBounds_toArray, List.set_cons_zero, List.set_cons_succ]
        refine wpAnyD_takeAt 9 (some 29) (v := ?_) rfl (by kernel_rfl) (by kernel_rfl) (by kernel_rfl) (by kernel_rfl) (by kernel_rfl) (fun _ _ _ h => h) (by exact ⟨k0, k1⟩) (fun o hop => ?_) ?_
        rotate_left
        · injection hop with hop
          subst hop
          refine ⟨rfl, fun W hW => ?_⟩
          obtain ⟨s0, s1⟩ := hW
          go_simp
          first
          | rfl
          | (constructor <;> rfl)
          | rw [if_neg (by omega)]
        try simp only [Act.put, List.setIfInBounds_toArray, List.set_cons_zero, List.set_cons_succ]
        refine wpAnyD_takeAt 10 (some 30) (v := ?_) rfl (by kernel_rfl) (by kernel_rfl) (by kernel_rfl) (by kernel_rfl) (by kernel_rfl) (fun _ _ _ h => h) (by exact ⟨k0, k1⟩) (fun o hop => ?_) ?_
        rotate_left
        · injection hop with hop
          subst hop
          refine ⟨rfl, fun W hW => ?_⟩
          obtain ⟨s0, s1⟩ := hW
          go_simp
          first
          | rfl
          | (constructor <;> rfl)
          | rw [if_neg (by omega)]
        try simp only [Act.put, List.setIfInBounds_toArray, List.set_cons_zero, List.set_cons_succ]
        refine wpAnyD_takeAt 11 (some 31) (v := ?_) rfl (by kernel_rfl) (by kernel_rfl) (by kernel_rfl) (by kernel_rfl) (by kernel_rfl) (fun _ _ _ h => h) (by exact ⟨k0, k1⟩) (fun o hop => ?_) ?_
        rotate_left
        · injection hop with hop
          subst hop
          refine ⟨rfl, fun W hW => ?_⟩
          obtain ⟨s0, s1⟩ := hW
          go_simp
          first
          | rfl
          | (constructor <;> rfl)
          | rw [if_neg (by omega)]
        try simp only [Act.put, List.setIfInBounds_toArray, List.set_cons_zero, List.set_cons_succ]
        refine wpAnyD_takeAt 12 (some 32) (v := ?_) rfl (by kernel_rfl) (by kernel_rfl) (by kernel_rfl) (by kernel_rfl) (by kernel_rfl) (fun _ _ _ h => h) (by exact ⟨k0, k1⟩) (fun o hop => ?_) ?_
        rotate_left
        · injection hop with hop
          subst hop
          refine ⟨rfl, fun W hW => ?_⟩
          obtain ⟨s0, s1⟩ := hW
          go_simp
          first
          | rfl
          | (constructor <;> rfl)
          | rw [if_neg (by omega)]
        try simp only [Act.put, List.setIfInBounds_toArray, List.set_cons_zero, List.set_cons_succ]
        have t0 := frozen_no hzs 0
        refine wpAnyT_one (i := 13) (by kernel_rfl) rfl rfl (fun K' hK => ?_)
        go_simp
        refine hK.out _ _ (fun h => absurd rfl h) ?_
        clear hK K'
        refine wpAnyT_done (by kernel_rfl) ?_ _
        have HF : Hid (∀ x, Bt [S] w1 (zz.setCell ⟨S, 0, none⟩ x) ∧ (zz.setCell ⟨S, 0, none⟩ x).heap[S]? = some (.cells (#[.int .i64 v0, .int .i64 v1, .int .i64 u0, .int .i64 u1].setIfInBounds 0 x) 119 (0, 0))) := fun x => ⟨hbt.set (List.mem_cons_self ..) _ _, set_any hzs 0 x⟩
        clear hbt hzs k0 k1 t0
        go_wp2_with fail
        go_roundw
        case rel => exact ⟨1, by go_num, by omega, (HF.out _).1, by rw [(HF.out _).2, HV.out, ← HFO.out]; rfl⟩
        case measure => simp [intOf]; omega
      · obtain rfl := e1 (by omega)
        have HFO : Hid (fillOf rr v1 u1 1 = v1 + (x + u1)) := by rw [hxx]; rfl
        clear hxx e0 e1
        have hwa : IntKind.i64.wrap (x + u1) = x + u1 := Go.IntWalk.i64_in _ (by omega)
        have hwb : IntKind.i64.wrap (v1 + (x + u1)) = v1 + (x + u1) := Go.IntWalk.i64_in _ (by omega)
        go_upto_region 4 with fail
        refine wp_region_tail (fun W => W.cell? ⟨S, 1, none⟩ = some (.int .i64 v1) ∧ W.cell? ⟨S, 3, none⟩ = some (.int .i64 u1)) 13 (by kernel_rfl) ?_
        refine wpAnyT_letter (fun W => Bt [S] w1 W ∧ W.heap[S]? = some (.cells #[.int .i64 v0, .int .i64 v1, .int .i64 u0, .int .i64 u1] 119 (0, 0))) ⟨HW.out.1.drew, HW.out.2⟩ ?_
        clear HW
        rintro zz ⟨hbt, hzs⟩
        have k0 : zz.cell? ⟨S, 1, none⟩ = some (.int .i64 v1) := (cells_at hzs 1).trans rfl
        have k1 : zz.cell? ⟨S, 3, none⟩ = some (.int .i64 u1) := (cells_at hzs 3).trans rfl
        refine wpAnyD_takeAt 0 (some 20) (v := ?_) rfl (by kernel_rfl) (by kernel_rfl) (by kernel_rfl) (by kernel_rfl) (by kernel_rfl) (fun _ _ _ h => h) (by exact ⟨k0, k1⟩) (fun o hop => ?_) ?_
        rotate_left
        · injection hop with hop
          subst hop
          refine ⟨rfl, fun W hW => ?_⟩
          obtain ⟨s0, s1⟩ := hW
          go_simp
          first
          | rfl
          | (constructor <;> rfl)
          | rw [if_neg (by omega)]
        try simp only [Act.put, List.setIfInBounds_toArray, List.set_cons_zero, List.set_cons_succ]
        refine wpAnyD_takeAt 1 (some 21) (v := ?_) rfl (by kernel_rfl) (by kernel_rfl) (by kernel_rfl) (by kernel_rfl) (by kernel_rfl) (fun _ _ _ h => h) (by exact ⟨k0, k1⟩) (fun o hop => ?_) ?_
        rotate_left
        · injection hop with hop
          subst hop
          refine ⟨rfl, fun W hW => ?_⟩
          obtain ⟨s0, s1⟩ := hW
          go_simp
          first
          | rfl
          | (constructor <;> rfl)
          | rw [if_neg (by omega)]
        try simp only [Act.put, List.setIfInBounds_toArray, List.set_cons_zero, List.set_cons_succ]
        refine wpAnyD_takeAt 2 (some 22) (v := ?_) rfl (by kernel_rfl) (by kernel_rfl) (by kernel_rfl) (by kernel_rfl) (by kernel_rfl) (fun _ _ _ h => h) (by exact ⟨k0, k1⟩) (fun o hop => ?_) ?_
        rotate_left
        · injection hop with hop
          subst hop
          refine ⟨rfl, fun W hW => ?_⟩
          obtain ⟨s0, s1⟩ := hW
          go_simp
          first
          | rfl
          | (constructor <;> rfl)
          | rw [if_neg (by omega)]
        try simp only [Act.put, List.setIfInBounds_toArray, List.set_cons_zero, List.set_cons_succ]
        refine wpAnyD_takeAt 3 (some 23) (v := ?_) rfl (by kernel_rfl) (by kernel_rfl) (by kernel_rfl) (by kernel_rfl) (by kernel_rfl) (fun _ _ _ h => h) (by exact ⟨k0, k1⟩) (fun o hop => ?_) ?_
        rotate_left
        · injection hop with hop
          subst hop
          refine ⟨rfl, fun W hW => ?_⟩
          obtain ⟨s0, s1⟩ := hW
          go_simp
          first
          | rfl
          | (constructor <;> rfl)
          | rw [if_neg (by omega)]
        try simp only [Act.put, List.setIfInBounds_toArray, List.set_cons_zero, List.set_cons_succ]
        refine wpAnyD_takeAt 4 (some 24) (v := ?_) rfl (by kernel_rfl) (by kernel_rfl) (by kernel_rfl) (by kernel_rfl) (by kernel_rfl) (fun _ _ _ h => h) (by exact ⟨k0, k1⟩) (fun o hop => ?_) ?_
        rotate_left
        · injection hop with hop
          subst hop
          refine ⟨rfl, fun W hW => ?_⟩
          obtain ⟨s0, s1⟩ := hW
          go_simp
          first
          | rfl
          | (constructor <;> rfl)
          | rw [if_neg (by omega)]
        try simp only [Act.put, List.setIfInBounds_toArray, List.set_cons_zero, List.set_cons_succ]
        refine wpAnyD_takeAt 5 (some 25) (v := ?_) rfl (by kernel_rfl) (by kernel_rfl) (by kernel_rfl) (by kernel_rfl) (by kernel_rfl) (fun _ _ _ h => h) (by exact ⟨k0, k1⟩) (fun o hop => ?_) ?_
        rotate_left
        · injection hop with hop
          subst hop
          refine ⟨rfl, fun W hW => ?_⟩
          obtain ⟨s0, s1⟩ := hW
          go_simp
          first
          | rfl
          | (constructor <;> rfl)
          | rw [if_neg (by omega)]
        try simp only [Act.put, List.setIfInBounds_toArray, List.set_cons_zero, List.set_cons_succ]
        refine wpAnyD_takeAt 6 (some 26) (v := ?_) rfl (by kernel_rfl) (by kernel_rfl) (by kernel_rfl) (by kernel_rfl) (by kernel_rfl) (fun _ _ _ h => h) (by exact ⟨k0, k1⟩) (fun o hop => ?_) ?_
        rotate_left
        · injection hop with hop
          subst hop
          refine ⟨rfl, fun W hW => ?_⟩
          obtain ⟨s0, s1⟩ := hW
          go_simp
          first
          | rfl
          | (constructor <;> rfl)
          | rw [if_neg (by omega)]
        try simp only [Act.put, List.setIfInBounds_toArray, List.set_cons_zero, List.set_cons_succ]
        refine wpAnyD_takeAt 7 (some 27) (v := ?_) rfl (by kernel_rfl) (by kernel_rfl) (by kernel_rfl) (by kernel_rfl) (by kernel_rfl) (fun _ _ _ h => h) (by exact ⟨k0, k1⟩) (fun o hop => ?_) ?_
        rotate_left
        · injection hop with hop
          subst hop
          refine ⟨rfl, fun W hW => ?_⟩
          obtain ⟨s0, s1⟩ := hW
          go_simp
          first
          | rfl
          | (constructor <;> rfl)
          | rw [if_neg (by omega)]
        try simp only [Act.put, List.setIfInBounds_toArray, List.set_cons_zero, List.set_cons_succ]
        refine wpAnyD_takeAt 8 (some 28) (v := ?_) rfl (by kernel_rfl) (by kernel_rfl) (by kernel_rfl) (by kernel_rfl) (by kernel_rfl) (fun _ _ _ h => h) (by exact ⟨k0, k1⟩) (fun o hop => ?_) ?_
        rotate_left
        · injection hop with hop
          subst hop
          refine ⟨rfl, fun W hW => ?_⟩
          obtain ⟨s0, s1⟩ := hW
          go_simp
          first
          | rfl
          | (constructor <;> rfl)
          | rw [if_neg (by omega)]
        try simp only [Act.put, List.setIfInBounds_toArray, List.set_cons_zero, List.set_cons_succ]
        refine wpAnyD_takeAt 9 (some 29) (v := ?_) rfl (by kernel_rfl) (by kernel_rfl) (by kernel_rfl) (by kernel_rfl) (by kernel_rfl) (fun _ _ _ h => h) (by exact ⟨k0, k1⟩) (fun o hop => ?_) ?_
        rotate_left
        · injection hop with hop
          subst hop
          refine ⟨rfl, fun W hW => ?_⟩
          obtain ⟨s0, s1⟩ := hW
          go_simp
          first
          | rfl
          | (constructor <;> rfl)
          | rw [if_neg (by omega)]
        try simp only [Act.put, List.setIfInBounds_toArray, List.set_cons_zero, List.set_cons_succ]
        refine wpAnyD_takeAt 10 (some 30) (v := ?_) rfl (by kernel_rfl) (by kernel_rfl) (by kernel_rfl) (by kernel_rfl) (by kernel_rfl) (fun _ _ _ h => h) (by exact ⟨k0, k1⟩) (fun o hop => ?_) ?_
        rotate_left
        · injection hop with hop
          subst hop
          refine ⟨rfl, fun W hW => ?_⟩
          obtain ⟨s0, s1⟩ := hW
          go_simp
          first
          | rfl
          | (constructor <;> rfl)
          | rw [if_neg (by omega)]
        try simp only [Act.put, List.setIfInBounds_toArray, List.set_cons_zero, List.set_cons_succ]
        refine wpAnyD_takeAt 11 (some 31) (v := ?_) rfl (by kernel_rfl) (by kernel_rfl) (by kernel_rfl) (by kernel_rfl) (by kernel_rfl) (fun _ _ _ h => h) (by exact ⟨k0, k1⟩) (fun o hop => ?_) ?_
        rotate_left
        · injection hop with hop
          subst hop
          refine ⟨rfl, fun W hW => ?_⟩
          obtain ⟨s0, s1⟩ := hW
          go_simp
          first
          | rfl
          | (constructor <;> rfl)
          | rw [if_neg (by omega)]
        try simp only [Act.put, List.setIfInBounds_toArray, List.set_cons_zero, List.set_cons_succ]
        refine wpAnyD_takeAt 12 (some 32) (v := ?_) rfl (by kernel_rfl) (by kernel_rfl) (by kernel_rfl) (by kernel_rfl) (by kernel_rfl) (fun _ _ _ h => h) (by exact ⟨k0, k1⟩) (fun o hop => ?_) ?_
        rotate_left
        · injection hop with hop
          subst hop
          refine ⟨rfl, fun W hW => ?_⟩
          obtain ⟨s0, s1⟩ := hW
          go_simp
          first
          | rfl
          | (constructor <;> rfl)
          | rw [if_neg (by omega)]
        try simp only [Act.put, List.setIfInBounds_toArray, List.set_cons_zero, List.set_cons_succ]
        have t0 := frozen_no hzs 1
        refine wpAnyT_one (i := 13) (by kernel_rfl) rfl rfl (fun K' hK => ?_)
        go_simp
        refine hK.out _ _ (fun h => absurd rfl h) ?_
        clear hK K'
        refine wpAnyT_done (by kernel_rfl) ?_ _
        have HF : Hid (∀ x, Bt [S] w1 (zz.setCell ⟨S, 1, none⟩ x) ∧ (zz.setCell ⟨S, 1, none⟩ x).heap[S]? = some (.cells (#[.int .i64 v0, .int .i64 v1, .int .i64 u0, .int .i64 u1].setIfInBounds 1 x) 119 (0, 0))) := fun x => ⟨hbt.set (List.mem_cons_self ..) _ _, set_any hzs 1 x⟩
        clear hbt hzs k0 k1 t0
        go_wp2_with fail
        go_roundw
        case rel => exact ⟨2, by go_num, by omega, (HF.out _).1, by rw [(HF.out _).2, HV.out, ← HFO.out]; rfl⟩
        case measure => simp [intOf]; omega
    · obtain rfl : k = L := by omega
      have y0 : wr.cell? ⟨S, 0, none⟩ = some (.int .i64 v0) := (cells_at HW.out.2 0).trans rfl
      have y1 : wr.cell? ⟨S, 1, none⟩ = some (.int .i64 v1) := (cells_at HW.out.2 1).trans rfl
      have hv := HW.out.1.keep HQV.out (by have := HNE.out.2.2.2.2.2; simp; omega)
      have y2 : wr.cell? ⟨V, 0, none⟩ = some (.int .i64 0) := (cells_at hv 0).trans rfl
      have y3 : wr.cell? ⟨V, 1, none⟩ = some (.int .i64 0) := (cells_at hv 1).trans rfl
      have t0 := frozen_no hv 0
      have t1 := frozen_no hv 1
      have HFI := hide' (set_two hv (.int .i64 v0) (.int .i64 v1))
      have HBI : Hid (Below w.heap.size w ((wr.setCell ⟨V, 0, none⟩ (.int .i64 v0)).setCell ⟨V, 1, none⟩ (.int .i64 v1))) := ((HW.out.1.below HB1.out (Nat.le_refl _) (fun m hm => by rw [List.mem_singleton.1 hm]; exact HNE.out.2.1)).setCell (p := ⟨V, 0, none⟩) HNE.out.2.2.1 _).setCell (p := ⟨V, 1, none⟩) HNE.out.2.2.1 _
      have HEQ : Hid ((#[.int .i64 v0, .int .i64 v1] : Array Value) = fillV rr l0 l1 u0 u1 k) := by
        have h := HV.out
        unfold fillA at h
        simp only [Array.mk.injEq, List.cons.injEq] at h
        obtain ⟨q0, q1, _⟩ := h
        show _ = _
        rw [q0, q1]; rfl
      clear HW hv e0 e1
      go_wp2_with fail
      refine bodyPost_ret (results_cell_row rfl _ _ V 117 _ (0, 0) _ rfl HFI.out Try.underlying117 rfl (by kernel_rfl)) rfl ?_
      exact ⟨congrArg (fun c => Ending.returned (Value.agg c)) HEQ.out, HBI.out⟩
end Go.Proofs.Ytnhddmcdmcpkeaj
