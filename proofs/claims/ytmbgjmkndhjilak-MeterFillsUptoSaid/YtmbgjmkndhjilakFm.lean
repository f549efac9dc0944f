/- Fractions: put in lowest terms; of a whole number. -/
import Derived.Test.YtmbgjmkndhjilakFl
namespace Go.Proofs.Ytmbgjmkndhjilak
open Go.RowKit Go.Shelf

theorem Num.but {z z' : World} {v : Value} {n A : Nat} (h : Num z v n) (hA : ∀ j i x, z.cell? ⟨A, j, none⟩ ≠ some (.int i x)) (hk : ∀ k, k ≠ A → z'.heap[k]? = z.heap[k]?) : Num z' v n := by
  obtain ⟨l, h1, h2, h3⟩ := h
  refine ⟨l, h1, h2, ?_⟩
  obtain ⟨e0, a, c, e1, e2⟩ := h3
  refine ⟨e0, a, c, e1, fun j u hj => ?_⟩
  obtain ⟨b, off, e3, e4⟩ := e2 j u hj
  refine ⟨b, off, e3, ?_⟩
  have hb : b ≠ A := fun q => by
    subst q
    obtain ⟨x, _, rfl⟩ := List.mem_map.1 (List.mem_of_getElem? hj)
    exact hA _ _ _ e4
  rw [← e4]
  exact World.cell?_of_block (hk b hb)
theorem noint {z : World} {A e : Nat} {b : Bool} {a a' : Option Addr} {k c k' c' : Nat} {f : Nat × Nat} (h : z.heap[A]? = some (.cells #[.bool b, .slice a k c, .slice a' k' c'] e f)) : ∀ j i x, z.cell? ⟨A, j, none⟩ ≠ some (.int i x) := fun j i x q => by
  rw [cells_at h j] at q
  match j, q with
  | 0, q => simp at q
  | 1, q => simp at q
  | 2, q => simp at q
  | j + 3, q => simp at q
theorem put3 {w : World} {A e : Nat} {x0 x1 x2 : Value} (h : w.heap[A]? = some (.cells #[x0, x1, x2] e (0, 0))) (v0 v1 v2 : Value) : (((w.setCell ⟨A, 0, none⟩ v0).setCell ⟨A, 1, none⟩ v1).setCell ⟨A, 2, none⟩ v2).heap[A]? = some (.cells #[v0, v1, v2] e (0, 0)) ∧ ∀ k, k ≠ A → (((w.setCell ⟨A, 0, none⟩ v0).setCell ⟨A, 1, none⟩ v1).setCell ⟨A, 2, none⟩ v2).heap[k]? = w.heap[k]? := by
  refine ⟨?_, fun k hk => ?_⟩
  · exact (set_any (set_any (set_any h 0 _) 1 _) 2 _).trans (by simp only [List.setIfInBounds_toArray, List.set_cons_zero, List.set_cons_succ])
  · rw [Below.heap_setCell _ _ _ k hk, Below.heap_setCell _ _ _ k hk, Below.heap_setCell _ _ _ k hk]
theorem lt_heap {w : World} {k : Nat} {o : Obj} (h : w.heap[k]? = some o) : k < w.heap.size := (Array.getElem?_eq_some_iff.1 h).1
theorem ltF {w : World} {k : Nat} {o : Obj} (h : w.heap[k]? = some o) : k < w.heap.size := (Array.getElem?_eq_some_iff.1 h).1
/-- A fraction is answered. -/
def QR (neg : Bool) (n d : Nat) (w : World) (e : Ending) (w' : World) : Prop := ∃ nv dv, e = .returned (.agg #[.bool neg, nv, dv]) ∧ Num w' nv n ∧ Num w' dv d ∧ Below w.heap.size w w'
theorem canon_one : Canon [1] := ⟨fun d h => by rw [List.mem_singleton.1 h]; decide, fun h => by simp⟩
theorem one_num (w : World) : Num (w.alloc (.cells #[.int .i64 1] 3)) (.slice (some ⟨w.heap.size, 0, none⟩) 1 1) 1 := ⟨[1], canon_one, rfl, rowAt_of_own (one_own w 1 0 (Nat.zero_le _))⟩
set_option maxRecDepth 100000 in
set_option maxHeartbeats 4000000 in
theorem over_any (neg : Bool) {n d M : Nat} {u v : Value} {w : World} (hu : Num w u n) (hv : Num w v d) (hd : 0 < d) (hn : n ≤ M) (hdM : d ≤ M) (hM : Small (M * 10000)) : Calls Try.prog 75 #[.bool neg, u, v] w (QR (neg && decide (n ≠ 0)) (n / Nat.gcd n d) (d / Nat.gcd n d) w) := by
  obtain ⟨na, nk, nc, rfl⟩ := hu.slice
  obtain ⟨da, dk, dc, rfl⟩ := hv.slice
  have hlen := hu.len
  have HU := hide' hu
  have HV := hide' hv
  have HM := hide' hM
  clear hu hv hM
  obtain ⟨PQ, HPQ⟩ : ∃ q, Hid (q = QR (neg && decide (n ≠ 0)) (n / Nat.gcd n d) (d / Nat.gcd n d) w) := ⟨_, rfl⟩
  rw [← HPQ.out]
  go_enter Try.func75, Try.ntmps75
  go_upto_region 1 with fail
  have hqA := alloc_new w (.cells #[.bool false, .slice none 0 0, .slice none 0 0] 113)
  have hb1 := below_al w (.cells #[.bool false, .slice none 0 0, .slice none 0 0] 113)
  obtain ⟨w1, hw1⟩ : ∃ x, x = (w.alloc (.cells #[.bool false, .slice none 0 0, .slice none 0 0] 113)) := ⟨_, rfl⟩
  rw [← hw1] at hqA hb1 ⊢
  obtain ⟨A, hnA⟩ : ∃ x, x = w.heap.size := ⟨_, rfl⟩
  have HNE : Hid (w.heap.size ≤ A) := by show _ ≤ _; omega
  rw [← hnA] at hqA
  rw [show (Value.pointer (some { block := w.heap.size, off := 0 })) = Value.pointer (some { block := A, off := 0 }) by rw [hnA]]
  have HQA := hide' hqA
  have HB1 := hide' hb1
  clear hqA hb1 hw1 hnA
  by_cases h0 : n = 0
  · have hk0 : nk = 0 := hlen.2 h0
    subst hk0 h0
    have HR0 : Hid ((neg && decide ((0 : Nat) ≠ 0)) = false ∧ 0 / Nat.gcd 0 d = 0 ∧ d / Nat.gcd 0 d = 1) := ⟨by simp, by simp, by rw [Nat.gcd_zero_left]; exact Nat.div_self hd⟩
    rw [HR0.out.1, HR0.out.2.1, HR0.out.2.2] at HPQ
    have HA2 : Hid ((w1.alloc (.cells #[.int .i64 1] 3)).heap[A]? = some (.cells #[.bool false, .slice none 0 0, .slice none 0 0] 113 (0, 0))) := (alloc_old w1 _ (ltF HQA.out)).trans HQA.out
    have HB2 : Hid (Below w.heap.size w (w1.alloc (.cells #[.int .i64 1] 3))) := HB1.out.trans ((below_al w1 _).mono HB1.out.size)
    have HN0 : Hid (Num (w1.alloc (.cells #[.int .i64 1] 3)) (.slice none 0 0) 0) := ⟨[], canon_nil, rfl, nil_rowF _⟩
    have HN1 := hide' (one_num w1)
    have HEz := hide' (HA2.out)
    have b0 : (w1.alloc (.cells #[.int .i64 1] 3)).cell? ⟨A, 0, none⟩ = some (.bool false) := (cells_at HEz.out 0).trans rfl
    have b1 : (w1.alloc (.cells #[.int .i64 1] 3)).cell? ⟨A, 1, none⟩ = some (.slice none 0 0) := (cells_at HEz.out 1).trans rfl
    have b2 : (w1.alloc (.cells #[.int .i64 1] 3)).cell? ⟨A, 2, none⟩ = some (.slice none 0 0) := (cells_at HEz.out 2).trans rfl
    have e0 : (w1.alloc (.cells #[.int .i64 1] 3)).frozen? ⟨A, 0, none⟩ = false := frozen_no HEz.out _
    have e1 : (w1.alloc (.cells #[.int .i64 1] 3)).frozen? ⟨A, 1, none⟩ = false := frozen_no HEz.out _
    have e2 : (w1.alloc (.cells #[.int .i64 1] 3)).frozen? ⟨A, 2, none⟩ = false := frozen_no HEz.out _
    have HP := hide' (put3 HEz.out (.bool false) (.slice none 0 0) (.slice (some ⟨w1.heap.size, 0, none⟩) 1 1))
    have HFN : Hid (Num ((((w1.alloc (.cells #[.int .i64 1] 3)).setCell ⟨A, 0, none⟩ (.bool false)).setCell ⟨A, 1, none⟩ (.slice none 0 0)).setCell ⟨A, 2, none⟩ (.slice (some ⟨w1.heap.size, 0, none⟩) 1 1)) (.slice none 0 0) 0 ∧ Num ((((w1.alloc (.cells #[.int .i64 1] 3)).setCell ⟨A, 0, none⟩ (.bool false)).setCell ⟨A, 1, none⟩ (.slice none 0 0)).setCell ⟨A, 2, none⟩ (.slice (some ⟨w1.heap.size, 0, none⟩) 1 1)) (.slice (some ⟨w1.heap.size, 0, none⟩) 1 1) 1 ∧ Below w.heap.size w ((((w1.alloc (.cells #[.int .i64 1] 3)).setCell ⟨A, 0, none⟩ (.bool false)).setCell ⟨A, 1, none⟩ (.slice none 0 0)).setCell ⟨A, 2, none⟩ (.slice (some ⟨w1.heap.size, 0, none⟩) 1 1))) := ⟨(HN0.out).but (noint HEz.out) HP.out.2, (HN1.out).but (noint HEz.out) HP.out.2, ((HB2.out.setCell (p := ⟨A, 0, none⟩) HNE.out _).setCell (p := ⟨A, 1, none⟩) HNE.out _).setCell (p := ⟨A, 2, none⟩) HNE.out _⟩
    clear HU HV HM hlen HR0 HN0 HN1 HA2 HB2 HQA HB1
    go_wp2
    refine bodyPost_ret (results_cell_row rfl _ _ A 113 _ (0, 0) _ rfl HP.out.1 Try.underlying113 rfl (by kernel_rfl)) rfl ?_
    rw [HPQ.out]
    exact ⟨_, _, rfl, HFN.out.1, HFN.out.2.1, HFN.out.2.2⟩
  · have hk0 : ¬ (nk : Int) = 0 := by
      have : nk ≠ 0 := fun q => h0 (hlen.1 q)
      omega
    have hk1 : ¬ nk = 0 := fun q => h0 (hlen.1 q)
    have HNG : Hid ((neg && decide (n ≠ 0)) = neg) := by show _ = _; simp [h0]
    rw [HNG.out] at HPQ
    have HG0 := hide' (natGcd_num (HU.out.below HB1.out (Nat.le_refl _)) (HV.out.below HB1.out (Nat.le_refl _)) hn hdM HM.out)
    obtain ⟨g, HG⟩ : ∃ g, Hid (g = Nat.gcd n d) := ⟨_, rfl⟩
    rw [← HG.out] at HG0 HPQ
    have hg0 : 0 < g := by rw [HG.out]; exact Nat.gcd_pos_of_pos_right _ hd
    have hgd : g ≤ d := by rw [HG.out]; exact Nat.le_of_dvd hd (Nat.gcd_dvd_right _ _)
    clear hlen HNG
    go_wp2_with fail
    refine HG0.out.mono ?_
    rintro e w2 ⟨gv, rfl, hg, hb2⟩
    obtain ⟨lg, ga, gc, hgc, hgv, rfl, hgr, hgl⟩ := hg.parts (HM.out.le (by omega))
    have HGN := hide' hg
    have HA2 := hide' ((hb2.block A (ltF HQA.out)).trans HQA.out)
    have HB2 : Hid (Below w.heap.size w w2) := HB1.out.trans (hb2.mono HB1.out.size)
    clear hg hb2 HG0 HQA HB1
    by_cases hg1 : g = 1
    · obtain rfl : lg = [1] := val_inj hgc canon_one (by rw [hgv, hg1]; rfl)
      obtain ⟨b1, o1, c1, ex1, hc1⟩ := dg_cell hgr 0 (by decide)
      cases ex1
      have e9 : w2.cell? ⟨b1, o1, none⟩ = some (.int .i64 1) := hc1
      rw [hg1, Nat.div_one, Nat.div_one] at HPQ
      have HN0 := hide' (HU.out.below HB2.out (Nat.le_refl _))
      have HN1 := hide' (HV.out.below HB2.out (Nat.le_refl _))
      have HEz := hide' (HA2.out)
      have b0 : w2.cell? ⟨A, 0, none⟩ = some (.bool false) := (cells_at HEz.out 0).trans rfl
      have b1 : w2.cell? ⟨A, 1, none⟩ = some (.slice none 0 0) := (cells_at HEz.out 1).trans rfl
      have b2 : w2.cell? ⟨A, 2, none⟩ = some (.slice none 0 0) := (cells_at HEz.out 2).trans rfl
      have e0 : w2.frozen? ⟨A, 0, none⟩ = false := frozen_no HEz.out _
      have e1 : w2.frozen? ⟨A, 1, none⟩ = false := frozen_no HEz.out _
      have e2 : w2.frozen? ⟨A, 2, none⟩ = false := frozen_no HEz.out _
      have HP := hide' (put3 HEz.out (.bool neg) (.slice na nk nc) (.slice da dk dc))
      have HFN : Hid (Num (((w2.setCell ⟨A, 0, none⟩ (.bool neg)).setCell ⟨A, 1, none⟩ (.slice na nk nc)).setCell ⟨A, 2, none⟩ (.slice da dk dc)) (.slice na nk nc) n ∧ Num (((w2.setCell ⟨A, 0, none⟩ (.bool neg)).setCell ⟨A, 1, none⟩ (.slice na nk nc)).setCell ⟨A, 2, none⟩ (.slice da dk dc)) (.slice da dk dc) d ∧ Below w.heap.size w (((w2.setCell ⟨A, 0, none⟩ (.bool neg)).setCell ⟨A, 1, none⟩ (.slice na nk nc)).setCell ⟨A, 2, none⟩ (.slice da dk dc))) := ⟨(HN0.out).but (noint HEz.out) HP.out.2, (HN1.out).but (noint HEz.out) HP.out.2, ((HB2.out.setCell (p := ⟨A, 0, none⟩) HNE.out _).setCell (p := ⟨A, 1, none⟩) HNE.out _).setCell (p := ⟨A, 2, none⟩) HNE.out _⟩
      clear hc1 hgr hgc hgv HU HV HM HG HN0 HN1 HA2 HB2 HGN hg1
      go_wp2
      refine bodyPost_ret (results_cell_row rfl _ _ A 113 _ (0, 0) _ rfl HP.out.1 Try.underlying113 rfl (by kernel_rfl)) rfl ?_
      rw [HPQ.out]
      exact ⟨_, _, rfl, HFN.out.1, HFN.out.2.1, HFN.out.2.2⟩
    · have HDV := hide' (natDiv_num (HU.out.below HB2.out (Nat.le_refl _)) HGN.out (HM.out.le (by omega)) hg0 (HM.out.le (Nat.mul_le_mul_right _ (Nat.le_trans hgd hdM))))
      by_cases hl1 : lg.length = 1
      · obtain ⟨y, rfl⟩ : ∃ y, lg = [y] := List.length_eq_one_iff.1 hl1
        have hy : ¬ (y : Int) = 1 := by
          intro q
          have : y = 1 := by omega
          rw [this] at hgv
          exact hg1 hgv.symm
        obtain ⟨b1, o1, c1, ex1, hc1⟩ := dg_cell hgr 0 (Nat.succ_pos _)
        cases ex1
        have e9 : w2.cell? ⟨b1, o1, none⟩ = some (.int .i64 (y : Int)) := hc1
        clear hc1 hgr hgc hgv hl1 hgl
        go_wp2_with fail
        refine HDV.out.mono ?_
        rintro e w3 ⟨qv, rv, rfl, hq, _, hb3⟩
        obtain ⟨qa, qk, qc, rfl⟩ := hq.slice
        have HB3 : Hid (Below w.heap.size w w3) := HB2.out.trans (hb3.mono HB2.out.size)
        have HA3 := hide' ((hb3.block A (ltF HA2.out)).trans HA2.out)
        have HQN := hide' hq
        have HD2 := hide' (natDiv_num (HV.out.below HB3.out (Nat.le_refl _)) (HGN.out.below hb3 (Nat.le_refl _)) (HM.out.le (by omega)) hg0 (HM.out.le (Nat.mul_le_mul_right _ (Nat.le_trans hgd hdM))))
        clear hq hb3 HDV HB2 HA2
        go_wp2_with fail
        refine HD2.out.mono ?_
        rintro e w4 ⟨qv2, rv2, rfl, hq2, _, hb4⟩
        obtain ⟨qa2, qk2, qc2, rfl⟩ := hq2.slice
        have HB4 : Hid (Below w.heap.size w w4) := HB3.out.trans (hb4.mono HB3.out.size)
        have HA4 := hide' ((hb4.block A (ltF HA3.out)).trans HA3.out)
        have HN0 := hide' (HQN.out.below hb4 (Nat.le_refl _))
        have HN1 := hide' hq2
        clear hq2 hb4 HD2 HB3 HA3 HQN HGN
        have HEz := hide' (HA4.out)
        have b0 : w4.cell? ⟨A, 0, none⟩ = some (.bool false) := (cells_at HEz.out 0).trans rfl
        have b1 : w4.cell? ⟨A, 1, none⟩ = some (.slice none 0 0) := (cells_at HEz.out 1).trans rfl
        have b2 : w4.cell? ⟨A, 2, none⟩ = some (.slice none 0 0) := (cells_at HEz.out 2).trans rfl
        have e0 : w4.frozen? ⟨A, 0, none⟩ = false := frozen_no HEz.out _
        have e1 : w4.frozen? ⟨A, 1, none⟩ = false := frozen_no HEz.out _
        have e2 : w4.frozen? ⟨A, 2, none⟩ = false := frozen_no HEz.out _
        have HP := hide' (put3 HEz.out (.bool neg) (.slice qa qk qc) (.slice qa2 qk2 qc2))
        have HFN : Hid (Num (((w4.setCell ⟨A, 0, none⟩ (.bool neg)).setCell ⟨A, 1, none⟩ (.slice qa qk qc)).setCell ⟨A, 2, none⟩ (.slice qa2 qk2 qc2)) (.slice qa qk qc) (n / g) ∧ Num (((w4.setCell ⟨A, 0, none⟩ (.bool neg)).setCell ⟨A, 1, none⟩ (.slice qa qk qc)).setCell ⟨A, 2, none⟩ (.slice qa2 qk2 qc2)) (.slice qa2 qk2 qc2) (d / g) ∧ Below w.heap.size w (((w4.setCell ⟨A, 0, none⟩ (.bool neg)).setCell ⟨A, 1, none⟩ (.slice qa qk qc)).setCell ⟨A, 2, none⟩ (.slice qa2 qk2 qc2))) := ⟨(HN0.out).but (noint HEz.out) HP.out.2, (HN1.out).but (noint HEz.out) HP.out.2, ((HB4.out.setCell (p := ⟨A, 0, none⟩) HNE.out _).setCell (p := ⟨A, 1, none⟩) HNE.out _).setCell (p := ⟨A, 2, none⟩) HNE.out _⟩
        clear HU HV HM HG HN0 HN1 HA4 HB4
        go_wp2
        refine bodyPost_ret (results_cell_row rfl _ _ A 113 _ (0, 0) _ rfl HP.out.1 Try.underlying113 rfl (by kernel_rfl)) rfl ?_
        rw [HPQ.out]
        exact ⟨_, _, rfl, HFN.out.1, HFN.out.2.1, HFN.out.2.2⟩
      · have hl2 : ¬ (lg.length : Int) = 1 := by omega
        clear hgr hgc hgv
        go_wp2_with fail
        refine HDV.out.mono ?_
        rintro e w3 ⟨qv, rv, rfl, hq, _, hb3⟩
        obtain ⟨qa, qk, qc, rfl⟩ := hq.slice
        have HB3 : Hid (Below w.heap.size w w3) := HB2.out.trans (hb3.mono HB2.out.size)
        have HA3 := hide' ((hb3.block A (ltF HA2.out)).trans HA2.out)
        have HQN := hide' hq
        have HD2 := hide' (natDiv_num (HV.out.below HB3.out (Nat.le_refl _)) (HGN.out.below hb3 (Nat.le_refl _)) (HM.out.le (by omega)) hg0 (HM.out.le (Nat.mul_le_mul_right _ (Nat.le_trans hgd hdM))))
        clear hq hb3 HDV HB2 HA2
        go_wp2_with fail
        refine HD2.out.mono ?_
        rintro e w4 ⟨qv2, rv2, rfl, hq2, _, hb4⟩
        obtain ⟨qa2, qk2, qc2, rfl⟩ := hq2.slice
        have HB4 : Hid (Below w.heap.size w w4) := HB3.out.trans (hb4.mono HB3.out.size)
        have HA4 := hide' ((hb4.block A (ltF HA3.out)).trans HA3.out)
        have HN0 := hide' (HQN.out.below hb4 (Nat.le_refl _))
        have HN1 := hide' hq2
        clear hq2 hb4 HD2 HB3 HA3 HQN HGN
        have HEz := hide' (HA4.out)
        have b0 : w4.cell? ⟨A, 0, none⟩ = some (.bool false) := (cells_at HEz.out 0).trans rfl
        have b1 : w4.cell? ⟨A, 1, none⟩ = some (.slice none 0 0) := (cells_at HEz.out 1).trans rfl
        have b2 : w4.cell? ⟨A, 2, none⟩ = some (.slice none 0 0) := (cells_at HEz.out 2).trans rfl
        have e0 : w4.frozen? ⟨A, 0, none⟩ = false := frozen_no HEz.out _
        have e1 : w4.frozen? ⟨A, 1, none⟩ = false := frozen_no HEz.out _
        have e2 : w4.frozen? ⟨A, 2, none⟩ = false := frozen_no HEz.out _
        have HP := hide' (put3 HEz.out (.bool neg) (.slice qa qk qc) (.slice qa2 qk2 qc2))
        have HFN : Hid (Num (((w4.setCell ⟨A, 0, none⟩ (.bool neg)).setCell ⟨A, 1, none⟩ (.slice qa qk qc)).setCell ⟨A, 2, none⟩ (.slice qa2 qk2 qc2)) (.slice qa qk qc) (n / g) ∧ Num (((w4.setCell ⟨A, 0, none⟩ (.bool neg)).setCell ⟨A, 1, none⟩ (.slice qa qk qc)).setCell ⟨A, 2, none⟩ (.slice qa2 qk2 qc2)) (.slice qa2 qk2 qc2) (d / g) ∧ Below w.heap.size w (((w4.setCell ⟨A, 0, none⟩ (.bool neg)).setCell ⟨A, 1, none⟩ (.slice qa qk qc)).setCell ⟨A, 2, none⟩ (.slice qa2 qk2 qc2))) := ⟨(HN0.out).but (noint HEz.out) HP.out.2, (HN1.out).but (noint HEz.out) HP.out.2, ((HB4.out.setCell (p := ⟨A, 0, none⟩) HNE.out _).setCell (p := ⟨A, 1, none⟩) HNE.out _).setCell (p := ⟨A, 2, none⟩) HNE.out _⟩
        clear HU HV HM HG HN0 HN1 HA4 HB4
        go_wp2
        refine bodyPost_ret (results_cell_row rfl _ _ A 113 _ (0, 0) _ rfl HP.out.1 Try.underlying113 rfl (by kernel_rfl)) rfl ?_
        rw [HPQ.out]
        exact ⟨_, _, rfl, HFN.out.1, HFN.out.2.1, HFN.out.2.2⟩
end Go.Proofs.Ytmbgjmkndhjilak
