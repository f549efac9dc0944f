/- What is best of the hours ahead; what is earned and kept. -/
import Derived.Test.YtnhddmcdmcpkeajWb
namespace Go.Proofs.Ytnhddmcdmcpkeaj
open Go.RowKit Go.Shelf
theorem set5 (b0 b1 b2 b3 b4 x0 x1 x2 x3 x4 : Value) : ((((#[b0, b1, b2, b3, b4].setIfInBounds 0 x0).setIfInBounds 1 x1).setIfInBounds 2 x2).setIfInBounds 3 x3).setIfInBounds 4 x4 = #[x0, x1, x2, x3, x4] := by simp only [List.setIfInBounds_toArray, List.set_cons_zero, List.set_cons_succ]
theorem set_five {w : World} {A t : Nat} {c0 c1 c2 c3 c4 : Value} (h : w.heap[A]? = some (.cells #[c0, c1, c2, c3, c4] t (0, 0))) (x0 x1 x2 x3 x4 : Value) : (((((w.setCell ⟨A, 0, none⟩ x0).setCell ⟨A, 1, none⟩ x1).setCell ⟨A, 2, none⟩ x2).setCell ⟨A, 3, none⟩ x3).setCell ⟨A, 4, none⟩ x4).heap[A]? = some (.cells #[x0, x1, x2, x3, x4] t (0, 0)) := by
  have h1 := set_any (set_any (set_any (set_any (set_any h 0 x0) 1 x1) 2 x2) 3 x3) 4 x4
  rw [set5] at h1
  exact h1

theorem mul_bd {a b A B : Int} (h0 : 0 ≤ a) (h1 : a ≤ A) (h2 : 0 ≤ b) (h3 : b ≤ B) : 0 ≤ a * b ∧ a * b ≤ A * B := ⟨Int.mul_nonneg h0 h2, Int.mul_le_mul h1 h3 h2 (by omega)⟩
theorem wrap_ok {x : Int} (h : -9223372036854775808 ≤ x ∧ x ≤ 9223372036854775807) : IntKind.i64.wrap x = x := Go.IntWalk.i64_in _ h
/-- What is earned by the first k lakes. -/
def earnK (ls : List LakeM) (p r0 r1 : Int) (k : Nat) : Int := (if 0 < k then r0 * (lkD ls 0).worth * p else 0) + (if 1 < k then r1 * (lkD ls 1).worth * p else 0)
theorem earn1 (ls : List LakeM) (p r0 r1 : Int) : earnK ls p r0 r1 (0 + 1) = earnK ls p r0 r1 0 + r0 * (lkD ls 0).worth * p := by unfold earnK; simp
theorem earn2 (ls : List LakeM) (p r0 r1 : Int) : earnK ls p r0 r1 (1 + 1) = earnK ls p r0 r1 1 + r1 * (lkD ls 1).worth * p := by unfold earnK; simp
def keptK (en : List Int) (l0 l1 : Int) (k : Nat) : Int := (if 0 < k then l0 * en.getD 0 0 else 0) + (if 1 < k then l1 * en.getD 1 0 else 0)
set_option maxRecDepth 100000 in
set_option maxHeartbeats 4000000 in
theorem earned_any (ls : List LakeM) (hok : ∀ k ∈ ls, LakeOk k) (al ap : Option Addr) (L cl H cp : Nat) (vi ve vm : Value) (pr : List Int) (h : Nat) (r0 r1 : Int) (w : World) (hx : RowAt w (.slice al L cl) ls.length 5 (ls.flatMap LakeM.cells)) (hl : ls.length = L) (hL : L ≤ 2) (hpr : RowAt w (.slice ap H cp) H 1 (ints pr)) (hpl : pr.length = H) (hh : h < H) (hp : 0 ≤ pr.getD h 0 ∧ pr.getD h 0 ≤ 1000) (hr0 : 0 ≤ r0 ∧ r0 ≤ 4) (hr1 : 0 ≤ r1 ∧ r1 ≤ 4) :
    Calls Try.prog 74 #[.agg #[.slice al L cl, vi, .slice ap H cp, ve, vm], .int .i64 (h : Int), .agg #[.int .i64 r0, .int .i64 r1]] w fun e w' => e = .returned (.int .i64 (earnK ls (pr.getD h 0) r0 r1 L)) ∧ Below w.heap.size w w' := by
  have HX := hide' hx
  have HL := hide' hl
  have HOK := hide' hok
  obtain ⟨pb, po, pc, ep, hpc⟩ := ints_cell2 hpr h (by rw [hpl]; exact hh)
  simp only [Value.slice.injEq] at ep
  obtain ⟨rfl, _, rfl⟩ := ep
  obtain ⟨p, hpe⟩ : ∃ p, p = pr.getD h 0 := ⟨_, rfl⟩
  rw [← hpe] at hp hpc ⊢
  have HPC := hide' hpc
  clear hx hl hok hpr hpe hpc hpl
  go_enter Try.func74, Try.ntmps74
  go_upto_region 1 with fail
  have hqP := (alloc_old (w.alloc (.cells #[.slice al L cl, vi, .slice (some ⟨pb, po, none⟩) H cp, ve, vm] 88)) (.cells #[.int .i64 r0, .int .i64 r1] 117) (lt_heap (alloc_new w (.cells #[.slice al L cl, vi, .slice (some ⟨pb, po, none⟩) H cp, ve, vm] 88)))).trans (alloc_new w (.cells #[.slice al L cl, vi, .slice (some ⟨pb, po, none⟩) H cp, ve, vm] 88))
  have hqR := alloc_new (w.alloc (.cells #[.slice al L cl, vi, .slice (some ⟨pb, po, none⟩) H cp, ve, vm] 88)) (.cells #[.int .i64 r0, .int .i64 r1] 117)
  have hb1 := (below_al w (.cells #[.slice al L cl, vi, .slice (some ⟨pb, po, none⟩) H cp, ve, vm] 88)).alloc (below_al w (.cells #[.slice al L cl, vi, .slice (some ⟨pb, po, none⟩) H cp, ve, vm] 88)).size (.cells #[.int .i64 r0, .int .i64 r1] 117)
  rw [show (w.alloc (.cells #[.slice al L cl, vi, .slice (some ⟨pb, po, none⟩) H cp, ve, vm] 88)).heap.size = w.heap.size + 1 from by simp only [World.size_alloc]] at hqR
  obtain ⟨w1, hw1⟩ : ∃ x, x = ((w.alloc (.cells #[.slice al L cl, vi, .slice (some ⟨pb, po, none⟩) H cp, ve, vm] 88)).alloc (.cells #[.int .i64 r0, .int .i64 r1] 117)) := ⟨_, rfl⟩
  rw [← hw1] at hqP hqR hb1 ⊢
  obtain ⟨P, hnP⟩ : ∃ x, x = w.heap.size := ⟨_, rfl⟩
  obtain ⟨R, hnR⟩ : ∃ x, x = w.heap.size + 1 := ⟨_, rfl⟩
  have HNE : Hid (w.heap.size ≤ P ∧ w.heap.size ≤ R ∧ P ≠ R) := ⟨by omega, by omega, by omega⟩
  rw [← hnP] at hqP
  rw [← hnR] at hqR
  rw [show (Value.pointer (some { block := w.heap.size, off := 0 })) = Value.pointer (some { block := P, off := 0 }) by rw [hnP], show (Value.pointer (some { block := w.heap.size + 1, off := 0 })) = Value.pointer (some { block := R, off := 0 }) by rw [hnR]]
  have HQP := hide' hqP
  have HQR := hide' hqR
  have HB1 := hide' hb1
  clear hqP hqR hb1 hw1 hnP hnR
  have y0 : w1.cell? ⟨P, 0, none⟩ = some (.slice al L cl) := (cells_at HQP.out 0).trans rfl
  go_wp2_with fail
  clear y0
  go_loopw [7, 14] (fun a i wr => ∃ (k : Nat) (c : Int), a = .int .i64 c ∧ i = .int .i64 k ∧ k ≤ L ∧ Hid (c = earnK ls p r0 r1 k) ∧ Hid (0 ≤ c ∧ c ≤ 4000000 * (k : Nat)) ∧ Hid (wr.heap[P]? = some (.cells #[.slice al L cl, vi, .slice (some ⟨pb, po, none⟩) H cp, ve, vm] 88 (0, 0)) ∧ wr.heap[R]? = some (.cells #[.int .i64 r0, .int .i64 r1] 117 (0, 0))) ∧ Hid (Below w.heap.size w wr)) (fun _ i _ => L - (intOf i).toNat)
  case atStart => exact ⟨0, 0, rfl, rfl, Nat.zero_le _, (by show _ = _; unfold earnK; simp), ⟨by omega, by omega⟩, ⟨HQP.out, HQR.out⟩, HB1⟩
  case round =>
    obtain ⟨k, c, rfl, rfl, hk, HC, HCB, HW, HBE⟩ := hrel
    by_cases hlt : k < L
    · obtain ⟨lb, lo, rfl, hlb, c0, c1, c2, c3, c4⟩ := lake_cells HX.out (k := k) (by rw [HL.out]; exact hlt)
      have hwb := (lkD_ok HOK.out (i := k) (by rw [HL.out]; exact hlt)).w
      replace c0 := up_cell HBE.out c0
      replace c1 := up_cell HBE.out c1
      replace c2 := up_cell HBE.out c2
      replace c3 := up_cell HBE.out c3
      replace c4 := up_cell HBE.out c4
      have hcp1 := up_cell HBE.out HPC.out
      have hk2 : k = 0 ∨ k = 1 := by omega
      clear hlb
      rcases hk2 with rfl | rfl
      · simp only [Nat.zero_mul, Nat.add_zero] at c0 c1 c2 c3 c4
        have HEK : Hid (earnK ls p r0 r1 (0 + 1) = c + r0 * (lkD ls 0).worth * p) := by have h := earn1 ls p r0 r1; rw [← HC.out] at h; exact h
        go_upto_region 5 with fail
        have hqk := alloc_new wr (.cells #[.int .i64 (lkD ls 0).least, .int .i64 (lkD ls 0).most, .int .i64 (lkD ls 0).start, .int .i64 (lkD ls 0).turb, .int .i64 (lkD ls 0).worth] 71)
        have HBZ := hide' (HBE.out.alloc HBE.out.size (.cells #[.int .i64 (lkD ls 0).least, .int .i64 (lkD ls 0).most, .int .i64 (lkD ls 0).start, .int .i64 (lkD ls 0).turb, .int .i64 (lkD ls 0).worth] 71))
        have hqp := (alloc_old wr (.cells #[.int .i64 (lkD ls 0).least, .int .i64 (lkD ls 0).most, .int .i64 (lkD ls 0).start, .int .i64 (lkD ls 0).turb, .int .i64 (lkD ls 0).worth] 71) (lt_heap HW.out.1)).trans HW.out.1
        have hqr := (alloc_old wr (.cells #[.int .i64 (lkD ls 0).least, .int .i64 (lkD ls 0).most, .int .i64 (lkD ls 0).start, .int .i64 (lkD ls 0).turb, .int .i64 (lkD ls 0).worth] 71) (lt_heap HW.out.2)).trans HW.out.2
        have hcp2 := later hcp1 (.cells #[.int .i64 (lkD ls 0).least, .int .i64 (lkD ls 0).most, .int .i64 (lkD ls 0).start, .int .i64 (lkD ls 0).turb, .int .i64 (lkD ls 0).worth] 71)
        obtain ⟨z, hz⟩ : ∃ x, x = wr.alloc (.cells #[.int .i64 (lkD ls 0).least, .int .i64 (lkD ls 0).most, .int .i64 (lkD ls 0).start, .int .i64 (lkD ls 0).turb, .int .i64 (lkD ls 0).worth] 71) := ⟨_, rfl⟩
        rw [← hz] at hqk HBZ hqp hqr hcp2 ⊢
        obtain ⟨K, hK⟩ : ∃ x, x = wr.heap.size := ⟨_, rfl⟩
        rw [← hK] at hqk
        rw [show (Value.pointer (some { block := wr.heap.size, off := 0 })) = Value.pointer (some { block := K, off := 0 }) by rw [hK]]
        obtain ⟨wo, hwo⟩ : ∃ x, x = (lkD ls 0).worth := ⟨_, rfl⟩
        rw [← hwo] at HEK hqk hwb
        have q4 : z.cell? ⟨K, 4, none⟩ = some (.int .i64 wo) := (cells_at hqk 4).trans rfl
        have qp : z.cell? ⟨P, 2, none⟩ = some (.slice (some ⟨pb, po, none⟩) H cp) := (cells_at hqp 2).trans rfl
        have qr : z.cell? ⟨R, 0, none⟩ = some (.int .i64 r0) := (cells_at hqr 0).trans rfl
        have m1 := mul_bd (a := r0) (b := wo) (A := 4) (B := 1000) hr0.1 hr0.2 hwb.1 hwb.2
        have m2 := mul_bd (a := r0 * wo) (b := p) (A := 4000) (B := 1000) m1.1 m1.2 hp.1 hp.2
        have w1' : IntKind.i64.wrap (r0 * wo) = r0 * wo := wrap_ok (by omega)
        have w2' : IntKind.i64.wrap (r0 * wo * p) = r0 * wo * p := wrap_ok (by omega)
        have w3' : IntKind.i64.wrap (c + r0 * wo * p) = c + r0 * wo * p := wrap_ok (by have := HCB.out; omega)
        have HW2 : Hid (∀ q, (z.drewN q).heap[P]? = some (.cells #[.slice (some ⟨lb, lo, none⟩) L cl, vi, .slice (some ⟨pb, po, none⟩) H cp, ve, vm] 88 (0, 0)) ∧ (z.drewN q).heap[R]? = some (.cells #[.int .i64 r0, .int .i64 r1] 117 (0, 0))) := fun q => ⟨hqp, hqr⟩
        have HB2 : Hid (∀ q, Below w.heap.size w (z.drewN q)) := fun q => below_drewN HBZ.out q
        have hc2 : 0 ≤ c + r0 * wo * p ∧ c + r0 * wo * p ≤ 4000000 * (0 + 1 : Nat) := by have := HCB.out; omega
        clear hz hK hwo hqk hqp hqr HW HBE HBZ c0 c1 c2 c3 c4 m1 m2 hcp1 hwb
        go_wp2_with fail
        go_quiet (fail)
        go_wp2_with fail
        go_roundw
        case rel => exact ⟨0 + 1, c + r0 * wo * p, rfl, by go_num, by omega, HEK.out.symm, hc2, HW2.out _, HB2.out _⟩
        case measure => simp [intOf]; omega
      · simp only [Nat.one_mul] at c0 c1 c2 c3 c4
        have HEK : Hid (earnK ls p r0 r1 (1 + 1) = c + r1 * (lkD ls 1).worth * p) := by have h := earn2 ls p r0 r1; rw [← HC.out] at h; exact h
        go_upto_region 5 with fail
        have hqk := alloc_new wr (.cells #[.int .i64 (lkD ls 1).least, .int .i64 (lkD ls 1).most, .int .i64 (lkD ls 1).start, .int .i64 (lkD ls 1).turb, .int .i64 (lkD ls 1).worth] 71)
        have HBZ := hide' (HBE.out.alloc HBE.out.size (.cells #[.int .i64 (lkD ls 1).least, .int .i64 (lkD ls 1).most, .int .i64 (lkD ls 1).start, .int .i64 (lkD ls 1).turb, .int .i64 (lkD ls 1).worth] 71))
        have hqp := (alloc_old wr (.cells #[.int .i64 (lkD ls 1).least, .int .i64 (lkD ls 1).most, .int .i64 (lkD ls 1).start, .int .i64 (lkD ls 1).turb, .int .i64 (lkD ls 1).worth] 71) (lt_heap HW.out.1)).trans HW.out.1
        have hqr := (alloc_old wr (.cells #[.int .i64 (lkD ls 1).least, .int .i64 (lkD ls 1).most, .int .i64 (lkD ls 1).start, .int .i64 (lkD ls 1).turb, .int .i64 (lkD ls 1).worth] 71) (lt_heap HW.out.2)).trans HW.out.2
        have hcp2 := later hcp1 (.cells #[.int .i64 (lkD ls 1).least, .int .i64 (lkD ls 1).most, .int .i64 (lkD ls 1).start, .int .i64 (lkD ls 1).turb, .int .i64 (lkD ls 1).worth] 71)
        obtain ⟨z, hz⟩ : ∃ x, x = wr.alloc (.cells #[.int .i64 (lkD ls 1).least, .int .i64 (lkD ls 1).most, .int .i64 (lkD ls 1).start, .int .i64 (lkD ls 1).turb, .int .i64 (lkD ls 1).worth] 71) := ⟨_, rfl⟩
        rw [← hz] at hqk HBZ hqp hqr hcp2 ⊢
        obtain ⟨K, hK⟩ : ∃ x, x = wr.heap.size := ⟨_, rfl⟩
        rw [← hK] at hqk
        rw [show (Value.pointer (some { block := wr.heap.size, off := 0 })) = Value.pointer (some { block := K, off := 0 }) by rw [hK]]
        obtain ⟨wo, hwo⟩ : ∃ x, x = (lkD ls 1).worth := ⟨_, rfl⟩
        rw [← hwo] at HEK hqk hwb
        have q4 : z.cell? ⟨K, 4, none⟩ = some (.int .i64 wo) := (cells_at hqk 4).trans rfl
        have qp : z.cell? ⟨P, 2, none⟩ = some (.slice (some ⟨pb, po, none⟩) H cp) := (cells_at hqp 2).trans rfl
        have qr : z.cell? ⟨R, 1, none⟩ = some (.int .i64 r1) := (cells_at hqr 1).trans rfl
        have m1 := mul_bd (a := r1) (b := wo) (A := 4) (B := 1000) hr1.1 hr1.2 hwb.1 hwb.2
        have m2 := mul_bd (a := r1 * wo) (b := p) (A := 4000) (B := 1000) m1.1 m1.2 hp.1 hp.2
        have w1' : IntKind.i64.wrap (r1 * wo) = r1 * wo := wrap_ok (by omega)
        have w2' : IntKind.i64.wrap (r1 * wo * p) = r1 * wo * p := wrap_ok (by omega)
        have w3' : IntKind.i64.wrap (c + r1 * wo * p) = c + r1 * wo * p := wrap_ok (by have := HCB.out; omega)
        have HW2 : Hid (∀ q, (z.drewN q).heap[P]? = some (.cells #[.slice (some ⟨lb, lo, none⟩) L cl, vi, .slice (some ⟨pb, po, none⟩) H cp, ve, vm] 88 (0, 0)) ∧ (z.drewN q).heap[R]? = some (.cells #[.int .i64 r0, .int .i64 r1] 117 (0, 0))) := fun q => ⟨hqp, hqr⟩
        have HB2 : Hid (∀ q, Below w.heap.size w (z.drewN q)) := fun q => below_drewN HBZ.out q
        have hc2 : 0 ≤ c + r1 * wo * p ∧ c + r1 * wo * p ≤ 4000000 * (1 + 1 : Nat) := by have := HCB.out; omega
        clear hz hK hwo hqk hqp hqr HW HBE HBZ c0 c1 c2 c3 c4 m1 m2 hcp1 hwb
        go_wp2_with fail
        go_quiet (fail)
        go_wp2_with fail
        go_roundw
        case rel => exact ⟨1 + 1, c + r1 * wo * p, rfl, by go_num, by omega, HEK.out.symm, hc2, HW2.out _, HB2.out _⟩
        case measure => simp [intOf]; omega
    · obtain rfl : k = L := by omega
      go_wp2
      go_ret
      exact ⟨ret_int HC.out, HBE.out⟩
theorem kept1 (en : List Int) (l0 l1 : Int) : keptK en l0 l1 (0 + 1) = keptK en l0 l1 0 + l0 * en.getD 0 0 := by unfold keptK; simp
theorem kept2 (en : List Int) (l0 l1 : Int) : keptK en l0 l1 (1 + 1) = keptK en l0 l1 1 + l1 * en.getD 1 0 := by unfold keptK; simp
set_option maxRecDepth 100000 in
set_option maxHeartbeats 4000000 in
theorem kept_any (en : List Int) (ae : Option Addr) (L ce : Nat) (vl vi vp vm : Value) (r0 r1 : Int) (w : World) (hen : RowAt w (.slice ae L ce) L 1 (ints en)) (hel : en.length = L) (hL : L ≤ 2) (heb : ∀ x ∈ en, 0 ≤ x ∧ x ≤ 1000) (hr0 : 0 ≤ r0 ∧ r0 ≤ 20) (hr1 : 0 ≤ r1 ∧ r1 ≤ 20) :
    Calls Try.prog 72 #[.agg #[vl, vi, vp, .slice ae L ce, vm], .agg #[.int .i64 r0, .int .i64 r1]] w fun e w' => e = .returned (.int .i64 (keptK en r0 r1 L)) ∧ Below w.heap.size w w' := by
  have HX := hide' hen
  have HL := hide' hel
  have HEB : Hid (∀ k, k < L → 0 ≤ en.getD k 0 ∧ en.getD k 0 ≤ 1000) := fun k hk => heb _ (by rw [← hel] at hk; rw [List.getD_eq_getElem?_getD, List.getElem?_eq_getElem hk]; exact List.getElem_mem hk)
  clear hen hel heb
  go_enter Try.func72, Try.ntmps72
  go_upto_region 1 with fail
  have hqP := (alloc_old (w.alloc (.cells #[vl, vi, vp, .slice ae L ce, vm] 88)) (.cells #[.int .i64 r0, .int .i64 r1] 117) (lt_heap (alloc_new w (.cells #[vl, vi, vp, .slice ae L ce, vm] 88)))).trans (alloc_new w (.cells #[vl, vi, vp, .slice ae L ce, vm] 88))
  have hqR := alloc_new (w.alloc (.cells #[vl, vi, vp, .slice ae L ce, vm] 88)) (.cells #[.int .i64 r0, .int .i64 r1] 117)
  have hb1 := (below_al w (.cells #[vl, vi, vp, .slice ae L ce, vm] 88)).alloc (below_al w (.cells #[vl, vi, vp, .slice ae L ce, vm] 88)).size (.cells #[.int .i64 r0, .int .i64 r1] 117)
  rw [show (w.alloc (.cells #[vl, vi, vp, .slice ae L ce, vm] 88)).heap.size = w.heap.size + 1 from by simp only [World.size_alloc]] at hqR
  obtain ⟨w1, hw1⟩ : ∃ x, x = ((w.alloc (.cells #[vl, vi, vp, .slice ae L ce, vm] 88)).alloc (.cells #[.int .i64 r0, .int .i64 r1] 117)) := ⟨_, rfl⟩
  rw [← hw1] at hqP hqR hb1 ⊢
  obtain ⟨P, hnP⟩ : ∃ x, x = w.heap.size := ⟨_, rfl⟩
  obtain ⟨R, hnR⟩ : ∃ x, x = w.heap.size + 1 := ⟨_, rfl⟩
  have HNE : Hid (w.heap.size ≤ P ∧ w.heap.size ≤ R ∧ P ≠ R) := ⟨by omega, by omega, by omega⟩
  rw [← hnP] at hqP
  rw [← hnR] at hqR
  rw [show (Value.pointer (some { block := w.heap.size, off := 0 })) = Value.pointer (some { block := P, off := 0 }) by rw [hnP], show (Value.pointer (some { block := w.heap.size + 1, off := 0 })) = Value.pointer (some { block := R, off := 0 }) by rw [hnR]]
  have HQP := hide' hqP
  have HQR := hide' hqR
  have HB1 := hide' hb1
  clear hqP hqR hb1 hw1 hnP hnR
  have y0 : w1.cell? ⟨P, 3, none⟩ = some (.slice ae L ce) := (cells_at HQP.out 3).trans rfl
  go_wp2_with fail
  clear y0
  go_loopw [5, 11] (fun a i wr => ∃ (k : Nat) (c : Int), a = .int .i64 c ∧ i = .int .i64 k ∧ k ≤ L ∧ Hid (c = keptK en r0 r1 k) ∧ Hid (0 ≤ c ∧ c ≤ 20000 * (k : Nat)) ∧ wr = w1) (fun _ i _ => L - (intOf i).toNat)
  case atStart => exact ⟨0, 0, rfl, rfl, Nat.zero_le _, (by show _ = _; unfold keptK; simp), ⟨by omega, by omega⟩, rfl⟩
  case round =>
    obtain ⟨k, c, rfl, rfl, hk, HC, HCB, hwr⟩ := hrel
    obtain rfl := hwr.symm
    by_cases hlt : k < L
    · obtain ⟨eb, eo, ec, ex, hec⟩ := ints_cell2 HX.out k (by rw [HL.out]; exact hlt)
      simp only [Value.slice.injEq] at ex
      obtain ⟨rfl, _, rfl⟩ := ex
      have c0 := up_cell HB1.out hec
      have hwb := HEB.out k hlt
      have hk2 : k = 0 ∨ k = 1 := by omega
      clear hec
      rcases hk2 with rfl | rfl
      · have HEK : Hid (keptK en r0 r1 (0 + 1) = c + r0 * en.getD 0 0) := by have h := kept1 en r0 r1; rw [← HC.out] at h; exact h
        obtain ⟨wo, hwo⟩ : ∃ x, x = en.getD 0 0 := ⟨_, rfl⟩
        rw [← hwo] at HEK c0 hwb
        simp only [Nat.add_zero] at c0
        have qr : w1.cell? ⟨R, 0, none⟩ = some (.int .i64 r0) := (cells_at HQR.out 0).trans rfl
        have m1 := mul_bd (a := r0) (b := wo) (A := 20) (B := 1000) hr0.1 hr0.2 hwb.1 hwb.2
        have w1' : IntKind.i64.wrap (r0 * wo) = r0 * wo := wrap_ok (by omega)
        have w3' : IntKind.i64.wrap (c + r0 * wo) = c + r0 * wo := wrap_ok (by have := HCB.out; omega)
        have hc2 : 0 ≤ c + r0 * wo ∧ c + r0 * wo ≤ 20000 * (0 + 1 : Nat) := by have := HCB.out; omega
        clear hwo m1 hwb
        go_wp2_with fail
        go_roundw
        case rel => exact ⟨0 + 1, c + r0 * wo, rfl, by go_num, by omega, HEK.out.symm, hc2, trivial⟩
        case measure => simp [intOf]; omega
      · have HEK : Hid (keptK en r0 r1 (1 + 1) = c + r1 * en.getD 1 0) := by have h := kept2 en r0 r1; rw [← HC.out] at h; exact h
        obtain ⟨wo, hwo⟩ : ∃ x, x = en.getD 1 0 := ⟨_, rfl⟩
        rw [← hwo] at HEK c0 hwb

        have qr : w1.cell? ⟨R, 1, none⟩ = some (.int .i64 r1) := (cells_at HQR.out 1).trans rfl
        have m1 := mul_bd (a := r1) (b := wo) (A := 20) (B := 1000) hr1.1 hr1.2 hwb.1 hwb.2
        have w1' : IntKind.i64.wrap (r1 * wo) = r1 * wo := wrap_ok (by omega)
        have w3' : IntKind.i64.wrap (c + r1 * wo) = c + r1 * wo := wrap_ok (by have := HCB.out; omega)
        have hc2 : 0 ≤ c + r1 * wo ∧ c + r1 * wo ≤ 20000 * (1 + 1 : Nat) := by have := HCB.out; omega
        clear hwo m1 hwb
        go_wp2_with fail
        go_roundw
        case rel => exact ⟨1 + 1, c + r1 * wo, rfl, by go_num, by omega, HEK.out.symm, hc2, trivial⟩
        case measure => simp [intOf]; omega
    · obtain rfl : k = L := by omega
      go_wp2
      go_ret
      exact ⟨ret_int HC.out, HB1.out⟩
end Go.Proofs.Ytnhddmcdmcpkeaj
