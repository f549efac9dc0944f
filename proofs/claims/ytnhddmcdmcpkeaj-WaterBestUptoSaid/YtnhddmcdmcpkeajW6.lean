/- ask. -/
import Derived.Test.YtnhddmcdmcpkeajW4
namespace Go.Proofs.Ytnhddmcdmcpkeaj
open Go.RowKit Go.Shelf

def askA (rr : List Int) (k : Nat) : Array Value := #[.int .i64 (if 0 < k then rr.getD 0 0 else 0), .int .i64 (if 1 < k then rr.getD 1 0 else 0)]
def askB (rr : List Int) (f0 f1 : Int) (k : Nat) : Bool := (decide (0 < k → withinB (rr.getD 0 0) 0 f0 = true)) && (decide (1 < k → withinB (rr.getD 1 0) 0 f1 = true))
def AskO (rr : List Int) (f0 f1 : Int) (L : Nat) (e : Ending) : Prop := (askB rr f0 f1 L = true ∧ e = .returned (.tuple #[.agg (askA rr L), .bool true])) ∨ (askB rr f0 f1 L = false ∧ e = .returned (.tuple #[.agg #[.int .i64 0, .int .i64 0], .bool false]))
theorem ask_no0 {rr : List Int} {f0 f1 : Int} {L : Nat} (h : withinB (rr.getD 0 0) 0 f0 = false) (hL : 0 < L) : askB rr f0 f1 L = false := by
  unfold askB; rw [h]; simp [hL]
theorem ask_no1 {rr : List Int} {f0 f1 : Int} {L : Nat} (h : withinB (rr.getD 1 0) 0 f1 = false) (hL : 1 < L) : askB rr f0 f1 L = false := by
  unfold askB; rw [h]; simp [hL]
theorem ask_yes1 {rr : List Int} {f0 f1 : Int} (h : withinB (rr.getD 0 0) 0 f0 = true) : askB rr f0 f1 1 = true := by
  unfold askB; rw [h]; simp
theorem ask_yes2 {rr : List Int} {f0 f1 : Int} (h0 : askB rr f0 f1 1 = true) (h : withinB (rr.getD 1 0) 0 f1 = true) : askB rr f0 f1 2 = true := by
  unfold askB at h0 ⊢; rw [h]; simp at h0 ⊢; exact h0
set_option maxRecDepth 100000 in
set_option maxHeartbeats 2000000 in
theorem ask_any (rr : List Int) (L : Nat) (hl : rr.length = L) (ar : Option Addr) (cr : Nat) (f0 f1 : Int) (w : World) (hx : RowAt w (.slice ar L cr) L 1 (ints rr)) (hL : L ≤ 2) : Calls Try.prog 63 #[.slice ar L cr, .agg #[.int .i64 f0, .int .i64 f1]] w fun e w' => AskO rr f0 f1 L e ∧ Below w.heap.size w w' := by
  have HX := hide' hx
  have HL := hide' hl
  have HWI : Hid (∀ x a b W, Calls Try.prog 58 #[.int .i64 x, .int .i64 a, .int .i64 b] W fun e w' => e = .returned (.bool (withinB x a b)) ∧ w' = W) := within_any
  clear hx hl
  go_enter Try.func63, Try.ntmps63
  go_upto_region 1 with fail
  have hqR := (alloc_old (w.alloc (.cells #[.int .i64 f0, .int .i64 f1] 117)) (.cells #[.int .i64 0, .int .i64 0] 117) (lt_heap (alloc_new w (.cells #[.int .i64 f0, .int .i64 f1] 117)))).trans (alloc_new w (.cells #[.int .i64 f0, .int .i64 f1] 117))
  have hqS := alloc_new (w.alloc (.cells #[.int .i64 f0, .int .i64 f1] 117)) (.cells #[.int .i64 0, .int .i64 0] 117)
  have hb1 := (below_al w (.cells #[.int .i64 f0, .int .i64 f1] 117)).alloc (below_al w (.cells #[.int .i64 f0, .int .i64 f1] 117)).size (.cells #[.int .i64 0, .int .i64 0] 117)
  rw [show (w.alloc (.cells #[.int .i64 f0, .int .i64 f1] 117)).heap.size = w.heap.size + 1 from by simp only [World.size_alloc]] at hqS
  obtain ⟨w1, hw1⟩ : ∃ x, x = ((w.alloc (.cells #[.int .i64 f0, .int .i64 f1] 117)).alloc (.cells #[.int .i64 0, .int .i64 0] 117)) := ⟨_, rfl⟩
  rw [← hw1] at hqR hqS hb1 ⊢
  obtain ⟨R, hnR⟩ : ∃ x, x = w.heap.size := ⟨_, rfl⟩
  obtain ⟨S, hnS⟩ : ∃ x, x = w.heap.size + 1 := ⟨_, rfl⟩
  have HNE : Hid (w.heap.size ≤ R ∧ w.heap.size ≤ S ∧ R ≠ S) := ⟨by omega, by omega, by omega⟩
  rw [← hnR] at hqR
  rw [← hnS] at hqS
  rw [show (Value.pointer (some { block := w.heap.size, off := 0 })) = Value.pointer (some { block := R, off := 0 }) by rw [hnR], show (Value.pointer (some { block := w.heap.size + 1, off := 0 })) = Value.pointer (some { block := S, off := 0 }) by rw [hnS]]
  have HQR := hide' hqR
  have HQS := hide' hqS
  have HB1 := hide' hb1
  clear hqR hqS hb1 hw1 hnR hnS
  go_wp2_with fail
  go_loopw [10] (fun i wr => ∃ (k : Nat), i = .int .i64 k ∧ k ≤ L ∧ Hid (askB rr f0 f1 k = true) ∧ Hid (Bt [S] w1 wr ∧ wr.heap[S]? = some (.cells (askA rr k) 117 (0, 0)))) (fun i _ => L - (intOf i).toNat)
  case atStart => exact ⟨0, rfl, Nat.zero_le _, by show _ = _; unfold askB; simp, Bt.refl _ _, HQS.out⟩
  case round =>
    obtain ⟨k, rfl, hk, HOK, HW⟩ := hrel
    obtain ⟨v0, v1, hA⟩ : ∃ v0 v1 : Int, askA rr k = #[.int .i64 v0, .int .i64 v1] := ⟨_, _, rfl⟩
    have HV := hide' hA.symm
    rw [hA] at HW
    clear hA
    have g0 : wr.cell? ⟨S, 0, none⟩ = some (.int .i64 v0) := (cells_at HW.out.2 0).trans rfl
    have g1 : wr.cell? ⟨S, 1, none⟩ = some (.int .i64 v1) := (cells_at HW.out.2 1).trans rfl
    have t0 := frozen_no HW.out.2 0
    have t1 := frozen_no HW.out.2 1
    have HFI := hide' (set_two HW.out.2)
    have HBI : Hid (∀ x y, Below w.heap.size w ((wr.setCell ⟨S, 0, none⟩ x).setCell ⟨S, 1, none⟩ y)) := fun x y => ((HW.out.1.set (List.mem_cons_self ..) _ _).set (List.mem_cons_self ..) _ _).below HB1.out (Nat.le_refl _) (fun m hm => by rw [List.mem_singleton.1 hm]; exact HNE.out.2.1)
    by_cases hlt : k < L
    · obtain ⟨rb, ro, rc, ex, hrc⟩ := ints_cell2 HX.out k (by rw [HL.out]; exact hlt)
      simp only [Value.slice.injEq] at ex
      obtain ⟨rfl, _, rfl⟩ := ex
      have hrb := World.block_lt_of_cell? w _ hrc
      have c0 := HW.out.1.cell (up_cell HB1.out hrc) (by have := HNE.out.2.1; have : rb < w.heap.size := hrb; simp; omega)
      have hr := HW.out.1.keep HQR.out (by have := HNE.out.2.2; simp; omega)
      have r0 : wr.cell? ⟨R, 0, none⟩ = some (.int .i64 f0) := (cells_at hr 0).trans rfl
      have r1 : wr.cell? ⟨R, 1, none⟩ = some (.int .i64 f1) := (cells_at hr 1).trans rfl
      have HSET : Hid (∀ j x, Bt [S] w1 (wr.setCell ⟨S, j, none⟩ x) ∧ (wr.setCell ⟨S, j, none⟩ x).heap[S]? = some (.cells (#[.int .i64 v0, .int .i64 v1].setIfInBounds j x) 117 (0, 0))) := fun j x => ⟨HW.out.1.set (List.mem_cons_self ..) _ _, set_any HW.out.2 j x⟩
      have hk2 : k = 0 ∨ k = 1 := by omega
      obtain ⟨x, hxx⟩ : ∃ x, x = rr.getD k 0 := ⟨_, rfl⟩
      rw [← hxx] at c0
      clear hrc hrb hr HW
      rcases hk2 with rfl | rfl
      · simp only [Nat.add_zero] at c0
        have HY : Hid (withinB x 0 f0 = true → askB rr f0 f1 1 = true) := fun h => ask_yes1 (by rw [← hxx]; exact h)
        have HN : Hid (withinB x 0 f0 = false → askB rr f0 f1 L = false) := fun h => ask_no0 (by rw [← hxx]; exact h) hlt
        have HAA : Hid ((#[.int .i64 v0, .int .i64 v1] : Array Value).setIfInBounds 0 (.int .i64 x) = askA rr 1) := by show _ = _; rw [HV.out, hxx]; rfl
        clear hxx
        go_wp2_with fail
        refine (HWI.out x 0 f0 wr).mono ?_
        rintro e z ⟨rfl, hz⟩
        obtain rfl := hz.symm
        obtain ⟨q, hq⟩ : ∃ b, b = withinB x 0 f0 := ⟨_, rfl⟩
        rw [← hq] at HY HN ⊢
        clear hq
        cases q with
        | true =>
          have HYY := hide' (HY.out rfl)
          go_wp2_with fail
          go_roundw
          case rel => exact ⟨1, by go_num, by omega, HYY, (HSET.out _ _).1, by rw [(HSET.out _ _).2, HAA.out]⟩
          case measure => simp [intOf]; omega
        | false =>
          have HNN := hide' (HN.out rfl)
          go_wp2_with fail
          refine bodyPost_ret (results_cell_row1 rfl _ _ S 117 _ (0, 0) _ rfl (HFI.out _ _) Try.underlying117 rfl (by kernel_rfl)) rfl ?_
          exact ⟨.inr ⟨HNN.out, rfl⟩, HBI.out _ _⟩
      · have HY : Hid (withinB x 0 f1 = true → askB rr f0 f1 2 = true) := fun h => ask_yes2 HOK.out (by rw [← hxx]; exact h)
        have HN : Hid (withinB x 0 f1 = false → askB rr f0 f1 L = false) := fun h => ask_no1 (by rw [← hxx]; exact h) hlt
        have HAA : Hid ((#[.int .i64 v0, .int .i64 v1] : Array Value).setIfInBounds 1 (.int .i64 x) = askA rr 2) := by show _ = _; rw [HV.out, hxx]; rfl
        clear hxx
        go_wp2_with fail
        refine (HWI.out x 0 f1 wr).mono ?_
        rintro e z ⟨rfl, hz⟩
        obtain rfl := hz.symm
        obtain ⟨q, hq⟩ : ∃ b, b = withinB x 0 f1 := ⟨_, rfl⟩
        rw [← hq] at HY HN ⊢
        clear hq
        cases q with
        | true =>
          have HYY := hide' (HY.out rfl)
          go_wp2_with fail
          go_roundw
          case rel => exact ⟨2, by go_num, by omega, HYY, (HSET.out _ _).1, by rw [(HSET.out _ _).2, HAA.out]⟩
          case measure => simp [intOf]; omega
        | false =>
          have HNN := hide' (HN.out rfl)
          go_wp2_with fail
          refine bodyPost_ret (results_cell_row1 rfl _ _ S 117 _ (0, 0) _ rfl (HFI.out _ _) Try.underlying117 rfl (by kernel_rfl)) rfl ?_
          exact ⟨.inr ⟨HNN.out, rfl⟩, HBI.out _ _⟩
    · obtain rfl : k = L := by omega
      clear HW
      go_wp2_with fail
      refine bodyPost_ret (results_cell_row1 rfl _ _ S 117 _ (0, 0) _ rfl (HFI.out _ _) Try.underlying117 rfl (by kernel_rfl)) rfl ?_
      exact ⟨.inl ⟨HOK.out, by rw [← HV.out]; rfl⟩, HBI.out _ _⟩
end Go.Proofs.Ytnhddmcdmcpkeaj
