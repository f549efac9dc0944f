/- Fractions: of a whole number; their signs. -/
import Derived.Test.YtmbgjmkndhjilakFm
namespace Go.Proofs.Ytmbgjmkndhjilak
open Go.RowKit Go.Shelf

/-- A fraction lies there. -/
def QAt (w : World) (v : Value) (neg : Bool) (n d : Nat) : Prop := ∃ na nk nc da dk dc, v = .agg #[.bool neg, .slice na nk nc, .slice da dk dc] ∧ Num w (.slice na nk nc) n ∧ Num w (.slice da dk dc) d
theorem QAt.below {w w' : World} {v : Value} {neg : Bool} {n d B : Nat} (h : QAt w v neg n d) (hb : Below B w w') (hB : w.heap.size ≤ B) : QAt w' v neg n d := by
  obtain ⟨na, nk, nc, da, dk, dc, rfl, h1, h2⟩ := h
  exact ⟨na, nk, nc, da, dk, dc, rfl, h1.below hb hB, h2.below hb hB⟩
theorem QR.at {w w' : World} {e : Ending} {neg : Bool} {n d : Nat} (h : QR neg n d w e w') : ∃ v, e = .returned v ∧ QAt w' v neg n d ∧ Below w.heap.size w w' := by
  obtain ⟨nv, dv, rfl, h1, h2, h3⟩ := h
  obtain ⟨na, nk, nc, rfl⟩ := h1.slice
  obtain ⟨da, dk, dc, rfl⟩ := h2.slice
  exact ⟨_, rfl, ⟨na, nk, nc, da, dk, dc, rfl, h1, h2⟩, h3⟩
set_option maxRecDepth 100000 in
set_option maxHeartbeats 4000000 in
theorem Whole_any (n : Nat) (hn : n ≤ 9223372036854775807) (w : World) : Calls Try.prog 68 #[.int .i64 (n : Int)] w (QR false n 1 w) := by
  have h0 : ¬ (n : Int) < 0 := by omega
  have HNO := hide' (fun z => natOf_any n hn z)
  go_enter Try.func68, Try.ntmps68
  go_upto_region 1 with fail
  have hqA := alloc_new w (.cells #[.bool false, .slice none 0 0, .slice none 0 0] 113)
  have hb1 := below_al w (.cells #[.bool false, .slice none 0 0, .slice none 0 0] 113)
  obtain ⟨w1, hw1⟩ : ∃ x, x = (w.alloc (.cells #[.bool false, .slice none 0 0, .slice none 0 0] 113)) := ⟨_, rfl⟩
  rw [← hw1] at hqA hb1 ⊢
  obtain ⟨A, hnA⟩ : ∃ x, x = w.heap.size := ⟨_, rfl⟩
  have HNE : Hid (w.heap.size ≤ A) := by show _ ≤ _; omega
  rw [← hnA] at hqA
  rw [show (Value.pointer (some { block := w.heap.size, off := 0 })) = Value.pointer (some { block := A, off := 0 }) by rw [hnA]]
  have HQA := hide' hqA
  have HB1 := hide' hb1
  clear hqA hb1 hw1 hnA
  go_wp2_with fail
  refine (HNO.out w1).mono ?_
  rintro e w2 ⟨v2, rfl, hv2, hb2⟩
  obtain ⟨na, nk, nc, rfl⟩ := hv2.slice
  have HA2 : Hid ((w2.alloc (.cells #[.int .i64 1] 3)).heap[A]? = some (.cells #[.bool false, .slice none 0 0, .slice none 0 0] 113 (0, 0))) := (alloc_old w2 _ (ltF ((hb2.block A (ltF HQA.out)).trans HQA.out))).trans ((hb2.block A (ltF HQA.out)).trans HQA.out)
  have hbw : Below w.heap.size w w2 := HB1.out.trans (hb2.mono HB1.out.size)
  have HB2 : Hid (Below w.heap.size w (w2.alloc (.cells #[.int .i64 1] 3))) := hbw.trans ((below_al w2 _).mono hbw.size)
  have HN0 := hide' (hv2.below (below_al w2 (.cells #[.int .i64 1] 3)) (Nat.le_refl _))
  have HN1 := hide' (one_num w2)
  have HEz := hide' (HA2.out)
  have b0 : (w2.alloc (.cells #[.int .i64 1] 3)).cell? ⟨A, 0, none⟩ = some (.bool false) := (cells_at HEz.out 0).trans rfl
  have b1 : (w2.alloc (.cells #[.int .i64 1] 3)).cell? ⟨A, 1, none⟩ = some (.slice none 0 0) := (cells_at HEz.out 1).trans rfl
  have b2 : (w2.alloc (.cells #[.int .i64 1] 3)).cell? ⟨A, 2, none⟩ = some (.slice none 0 0) := (cells_at HEz.out 2).trans rfl
  have e0 : (w2.alloc (.cells #[.int .i64 1] 3)).frozen? ⟨A, 0, none⟩ = false := frozen_no HEz.out _
  have e1 : (w2.alloc (.cells #[.int .i64 1] 3)).frozen? ⟨A, 1, none⟩ = false := frozen_no HEz.out _
  have e2 : (w2.alloc (.cells #[.int .i64 1] 3)).frozen? ⟨A, 2, none⟩ = false := frozen_no HEz.out _
  have HP := hide' (put3 HEz.out (.bool false) (.slice na nk nc) (.slice (some ⟨w2.heap.size, 0, none⟩) 1 1))
  have HFN : Hid (Num ((((w2.alloc (.cells #[.int .i64 1] 3)).setCell ⟨A, 0, none⟩ (.bool false)).setCell ⟨A, 1, none⟩ (.slice na nk nc)).setCell ⟨A, 2, none⟩ (.slice (some ⟨w2.heap.size, 0, none⟩) 1 1)) (.slice na nk nc) n ∧ Num ((((w2.alloc (.cells #[.int .i64 1] 3)).setCell ⟨A, 0, none⟩ (.bool false)).setCell ⟨A, 1, none⟩ (.slice na nk nc)).setCell ⟨A, 2, none⟩ (.slice (some ⟨w2.heap.size, 0, none⟩) 1 1)) (.slice (some ⟨w2.heap.size, 0, none⟩) 1 1) 1 ∧ Below w.heap.size w ((((w2.alloc (.cells #[.int .i64 1] 3)).setCell ⟨A, 0, none⟩ (.bool false)).setCell ⟨A, 1, none⟩ (.slice na nk nc)).setCell ⟨A, 2, none⟩ (.slice (some ⟨w2.heap.size, 0, none⟩) 1 1))) := ⟨(HN0.out).but (noint HEz.out) HP.out.2, (HN1.out).but (noint HEz.out) HP.out.2, ((HB2.out.setCell (p := ⟨A, 0, none⟩) HNE.out _).setCell (p := ⟨A, 1, none⟩) HNE.out _).setCell (p := ⟨A, 2, none⟩) HNE.out _⟩
  clear HNO HN0 HN1 HA2 HB2 HQA HB1 hv2 hb2 hbw
  go_wp2
  refine bodyPost_ret (results_cell_row rfl _ _ A 113 _ (0, 0) _ rfl HP.out.1 Try.underlying113 rfl (by kernel_rfl)) rfl ?_
  exact ⟨_, _, rfl, HFN.out.1, HFN.out.2.1, HFN.out.2.2⟩
/-- The sign of a fraction. -/
def signQ (neg : Bool) (n : Nat) : Int := if n = 0 then 0 else if neg then -1 else 1
set_option maxRecDepth 100000 in
set_option maxHeartbeats 4000000 in
theorem QSign_any {neg : Bool} {n d : Nat} {v : Value} {w : World} (hv : QAt w v neg n d) : Calls Try.prog 81 #[v] w (CmpR (signQ neg n) w) := by
  obtain ⟨na, nk, nc, da, dk, dc, rfl, h1, _⟩ := hv
  have hlen := h1.len
  clear h1
  go_enter Try.func81, Try.ntmps81
  go_upto_region 1 with fail
  have hqY := alloc_new w (.cells #[.bool neg, .slice na nk nc, .slice da dk dc] 113)
  have hb1 := below_al w (.cells #[.bool neg, .slice na nk nc, .slice da dk dc] 113)
  obtain ⟨w1, hw1⟩ : ∃ x, x = (w.alloc (.cells #[.bool neg, .slice na nk nc, .slice da dk dc] 113)) := ⟨_, rfl⟩
  rw [← hw1] at hqY hb1 ⊢
  obtain ⟨Y, hnY⟩ : ∃ x, x = w.heap.size := ⟨_, rfl⟩
  have HNE : Hid (w.heap.size ≤ Y) := by show _ ≤ _; omega
  rw [← hnY] at hqY
  rw [show (Value.pointer (some { block := w.heap.size, off := 0 })) = Value.pointer (some { block := Y, off := 0 }) by rw [hnY]]
  have HQY := hide' hqY
  have HB1 := hide' hb1
  clear hqY hb1 hw1 hnY
  have c0 : w1.cell? ⟨Y, 0, none⟩ = some (.bool neg) := (cells_at HQY.out 0).trans rfl
  have c1 : w1.cell? ⟨Y, 1, none⟩ = some (.slice na nk nc) := (cells_at HQY.out 1).trans rfl
  have c2 : w1.cell? ⟨Y, 2, none⟩ = some (.slice da dk dc) := (cells_at HQY.out 2).trans rfl
  by_cases h0 : n = 0
  · have hk0 : nk = 0 := hlen.2 h0
    subst hk0
    have HS : Hid (signQ neg n = 0) := if_pos h0
    clear hlen
    go_wp2
    go_ret
    exact ⟨by rw [HS.out]; rfl, HB1.out⟩
  · have hk0 : ¬ (nk : Int) = 0 := by
      have : nk ≠ 0 := fun q => h0 (hlen.1 q)
      omega
    have hk1 : ¬ nk = 0 := fun q => h0 (hlen.1 q)
    clear hlen
    cases neg with
    | true =>
      have HS : Hid (signQ true n = -1) := by show _ = _; unfold signQ; rw [if_neg h0]; rfl
      go_wp2
      go_ret
      exact ⟨by rw [HS.out]; rfl, HB1.out⟩
    | false =>
      have HS : Hid (signQ false n = 1) := by show _ = _; unfold signQ; rw [if_neg h0]; rfl
      go_wp2
      go_ret
      exact ⟨by rw [HS.out]; rfl, HB1.out⟩
set_option maxRecDepth 100000 in
set_option maxHeartbeats 4000000 in
theorem QNeg_pos {n d : Nat} {v : Value} {w : World} (hv : QAt w v false n d) (hn : 0 < n) : Calls Try.prog 86 #[v] w (QR true n d w) := by
  obtain ⟨na, nk, nc, da, dk, dc, rfl, h1, h2⟩ := hv
  have hlen := h1.len
  have hk0 : (0 : Int) < (nk : Int) := by
    have : nk ≠ 0 := fun q => by have := hlen.1 q; omega
    omega
  have HN0 := hide' h1
  have HN1 := hide' h2
  clear h1 h2 hlen
  go_enter Try.func86, Try.ntmps86
  go_upto_region 1 with fail
  have hqY := (alloc_old (w.alloc (.cells #[.bool false, .slice na nk nc, .slice da dk dc] 113)) (.cells #[.bool false, .slice none 0 0, .slice none 0 0] 113) (lt_heap (alloc_new w (.cells #[.bool false, .slice na nk nc, .slice da dk dc] 113)))).trans (alloc_new w (.cells #[.bool false, .slice na nk nc, .slice da dk dc] 113))
  have hqA := alloc_new (w.alloc (.cells #[.bool false, .slice na nk nc, .slice da dk dc] 113)) (.cells #[.bool false, .slice none 0 0, .slice none 0 0] 113)
  have hb1 := (below_al w (.cells #[.bool false, .slice na nk nc, .slice da dk dc] 113)).alloc (below_al w (.cells #[.bool false, .slice na nk nc, .slice da dk dc] 113)).size (.cells #[.bool false, .slice none 0 0, .slice none 0 0] 113)
  rw [show (w.alloc (.cells #[.bool false, .slice na nk nc, .slice da dk dc] 113)).heap.size = w.heap.size + 1 from by simp only [World.size_alloc]] at hqA
  obtain ⟨w1, hw1⟩ : ∃ x, x = ((w.alloc (.cells #[.bool false, .slice na nk nc, .slice da dk dc] 113)).alloc (.cells #[.bool false, .slice none 0 0, .slice none 0 0] 113)) := ⟨_, rfl⟩
  rw [← hw1] at hqY hqA hb1 ⊢
  obtain ⟨Y, hnY⟩ : ∃ x, x = w.heap.size := ⟨_, rfl⟩
  obtain ⟨A, hnA⟩ : ∃ x, x = w.heap.size + 1 := ⟨_, rfl⟩
  have HNE : Hid (w.heap.size ≤ Y ∧ w.heap.size ≤ A ∧ Y ≠ A) := ⟨by omega, by omega, by omega⟩
  rw [← hnY] at hqY
  rw [← hnA] at hqA
  rw [show (Value.pointer (some { block := w.heap.size, off := 0 })) = Value.pointer (some { block := Y, off := 0 }) by rw [hnY], show (Value.pointer (some { block := w.heap.size + 1, off := 0 })) = Value.pointer (some { block := A, off := 0 }) by rw [hnA]]
  have HQY := hide' hqY
  have HQA := hide' hqA
  have HB1 := hide' hb1
  clear hqY hqA hb1 hw1 hnY hnA
  have c0 : w1.cell? ⟨Y, 0, none⟩ = some (.bool false) := (cells_at HQY.out 0).trans rfl
  have c1 : w1.cell? ⟨Y, 1, none⟩ = some (.slice na nk nc) := (cells_at HQY.out 1).trans rfl
  have c2 : w1.cell? ⟨Y, 2, none⟩ = some (.slice da dk dc) := (cells_at HQY.out 2).trans rfl
  have f0 : w1.frozen? ⟨Y, 0, none⟩ = false := frozen_no HQY.out _
  have f1 : w1.frozen? ⟨Y, 1, none⟩ = false := frozen_no HQY.out _
  have f2 : w1.frozen? ⟨Y, 2, none⟩ = false := frozen_no HQY.out _
  have HY2 : Hid ((w1.setCell ⟨Y, 0, none⟩ (.bool true)).heap[Y]? = some (.cells #[.bool true, .slice na nk nc, .slice da dk dc] 113 (0, 0))) := (set_any HQY.out 0 _).trans (by simp only [List.setIfInBounds_toArray, List.set_cons_zero])
  have HA2 : Hid ((w1.setCell ⟨Y, 0, none⟩ (.bool true)).heap[A]? = some (.cells #[.bool false, .slice none 0 0, .slice none 0 0] 113 (0, 0))) := (Below.heap_setCell w1 ⟨Y, 0, none⟩ _ A (Ne.symm HNE.out.2.2)).trans HQA.out
  have HB2 : Hid (Below w.heap.size w (w1.setCell ⟨Y, 0, none⟩ (.bool true))) := HB1.out.setCell (p := ⟨Y, 0, none⟩) HNE.out.1 _
  clear HQY HQA HB1
  go_upto_region 3 with fail
  clear c0 c1 c2 f0 f1 f2
  obtain ⟨w2, hw2⟩ : ∃ x, x = w1.setCell ⟨Y, 0, none⟩ (.bool true) := ⟨_, rfl⟩
  rw [← hw2] at HY2 HA2 HB2 ⊢
  clear hw2
  have HN2 := hide' (HN0.out.below HB2.out (Nat.le_refl _))
  have HN3 := hide' (HN1.out.below HB2.out (Nat.le_refl _))
  have c0 : w2.cell? ⟨Y, 0, none⟩ = some (.bool true) := (cells_at HY2.out 0).trans rfl
  have c1 : w2.cell? ⟨Y, 1, none⟩ = some (.slice na nk nc) := (cells_at HY2.out 1).trans rfl
  have c2 : w2.cell? ⟨Y, 2, none⟩ = some (.slice da dk dc) := (cells_at HY2.out 2).trans rfl
  have HEz := hide' (HA2.out)
  have b0 : w2.cell? ⟨A, 0, none⟩ = some (.bool false) := (cells_at HEz.out 0).trans rfl
  have b1 : w2.cell? ⟨A, 1, none⟩ = some (.slice none 0 0) := (cells_at HEz.out 1).trans rfl
  have b2 : w2.cell? ⟨A, 2, none⟩ = some (.slice none 0 0) := (cells_at HEz.out 2).trans rfl
  have e0 : w2.frozen? ⟨A, 0, none⟩ = false := frozen_no HEz.out _
  have e1 : w2.frozen? ⟨A, 1, none⟩ = false := frozen_no HEz.out _
  have e2 : w2.frozen? ⟨A, 2, none⟩ = false := frozen_no HEz.out _
  have HP := hide' (put3 HEz.out (.bool true) (.slice na nk nc) (.slice da dk dc))
  have HFN : Hid (Num (((w2.setCell ⟨A, 0, none⟩ (.bool true)).setCell ⟨A, 1, none⟩ (.slice na nk nc)).setCell ⟨A, 2, none⟩ (.slice da dk dc)) (.slice na nk nc) n ∧ Num (((w2.setCell ⟨A, 0, none⟩ (.bool true)).setCell ⟨A, 1, none⟩ (.slice na nk nc)).setCell ⟨A, 2, none⟩ (.slice da dk dc)) (.slice da dk dc) d ∧ Below w.heap.size w (((w2.setCell ⟨A, 0, none⟩ (.bool true)).setCell ⟨A, 1, none⟩ (.slice na nk nc)).setCell ⟨A, 2, none⟩ (.slice da dk dc))) := ⟨(HN2.out).but (noint HEz.out) HP.out.2, (HN3.out).but (noint HEz.out) HP.out.2, ((HB2.out.setCell (p := ⟨A, 0, none⟩) HNE.out.2.1 _).setCell (p := ⟨A, 1, none⟩) HNE.out.2.1 _).setCell (p := ⟨A, 2, none⟩) HNE.out.2.1 _⟩
  clear HN0 HN1 HN2 HN3 HA2 HB2 HY2
  go_wp2
  refine bodyPost_ret (results_cell_row rfl _ _ A 113 _ (0, 0) _ rfl HP.out.1 Try.underlying113 rfl (by kernel_rfl)) rfl ?_
  exact ⟨_, _, rfl, HFN.out.1, HFN.out.2.1, HFN.out.2.2⟩
end Go.Proofs.Ytmbgjmkndhjilak
