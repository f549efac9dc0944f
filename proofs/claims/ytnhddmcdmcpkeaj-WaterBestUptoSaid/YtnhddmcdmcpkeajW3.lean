/- Worlds in which just some blocks have changed; start. -/
import Derived.Test.YtnhddmcdmcpkeajW2
namespace Go.Proofs.Ytnhddmcdmcpkeaj
open Go.RowKit Go.Shelf

/-- Nothing but these blocks, and what is new, has changed. -/
structure Bt (Ms : List Nat) (W W' : World) : Prop where
  os : W'.os = W.os
  tape : W'.tape = W.tape
  output : W'.output = W.output
  size : W.heap.size ≤ W'.heap.size
  block : ∀ k, k < W.heap.size → k ∉ Ms → W'.heap[k]? = W.heap[k]?
theorem Bt.refl (Ms : List Nat) (W : World) : Bt Ms W W := ⟨rfl, rfl, rfl, Nat.le_refl _, fun _ _ _ => rfl⟩
theorem Bt.of {Ms : List Nat} {W W' W'' : World} (h : Bt Ms W W') (hb : Below W'.heap.size W' W'') : Bt Ms W W'' :=
  ⟨hb.os.trans h.os, hb.tape.trans h.tape, hb.output.trans h.output, Nat.le_trans h.size hb.size, fun k hk hm => (hb.block k (Nat.lt_of_lt_of_le hk h.size)).trans (h.block k hk hm)⟩
theorem Bt.al {Ms : List Nat} {W W' : World} (h : Bt Ms W W') (o : Obj) : Bt Ms W (W'.alloc o) := h.of (below_al W' o)
theorem Bt.drewN {Ms : List Nat} {W W' : World} (h : Bt Ms W W') (n : Nat) : Bt Ms W (W'.drewN n) := h.of (below_drewN (Below.refl _ W') n)
theorem Bt.drew {Ms : List Nat} {W W' : World} (h : Bt Ms W W') : Bt Ms W W'.drew := h.of (Below.refl _ W').drew
theorem Bt.set {Ms : List Nat} {W W' : World} (h : Bt Ms W W') {m : Nat} (hm : m ∈ Ms) (j : Nat) (x : Value) : Bt Ms W (W'.setCell ⟨m, j, none⟩ x) := by
  have hb := Below.setCell (p := ⟨m, j, none⟩) (Below.refl 0 W') (Nat.zero_le _) x
  exact ⟨hb.os.trans h.os, hb.tape.trans h.tape, hb.output.trans h.output, Nat.le_trans h.size hb.size, fun k hk hn => (Below.heap_setCell _ _ _ k (fun e => hn (e ▸ hm))).trans (h.block k hk hn)⟩
theorem Bt.below {Ms : List Nat} {B : Nat} {W0 W W' : World} (h : Bt Ms W W') (h0 : Below B W0 W) (hB : B ≤ W0.heap.size) (hM : ∀ m ∈ Ms, B ≤ m) : Below B W0 W' :=
  ⟨h.os.trans h0.os, h.tape.trans h0.tape, h.output.trans h0.output, Nat.le_trans h0.size h.size, fun k hk => (h.block k (Nat.lt_of_lt_of_le (Nat.lt_of_lt_of_le hk hB) h0.size) (fun hm => by have := hM k hm; omega)).trans (h0.block k hk)⟩
theorem Bt.keep {Ms : List Nat} {W W' : World} (h : Bt Ms W W') {k : Nat} {o : Obj} (hk : W.heap[k]? = some o) (hm : k ∉ Ms) : W'.heap[k]? = some o := (h.block k (Array.getElem?_eq_some_iff.1 hk).1 hm).trans hk
theorem Bt.cell {Ms : List Nat} {W W' : World} (h : Bt Ms W W') {b o : Nat} {u : Value} (hc : W.cell? ⟨b, o, none⟩ = some u) (hm : b ∉ Ms) : W'.cell? ⟨b, o, none⟩ = some u := by
  have hlt := World.block_lt_of_cell? W _ hc
  simp only [World.cell?] at hc ⊢
  rw [h.block b hlt hm]
  exact hc
theorem lt_heap {w : World} {k : Nat} {o : Obj} (h : w.heap[k]? = some o) : k < w.heap.size := (Array.getElem?_eq_some_iff.1 h).1
def z0 : LakeM := ⟨0, 0, 0, 0, 0⟩
def lkD (ls : List LakeM) (i : Nat) : LakeM := ls.getD i z0
theorem lk_at {ls : List LakeM} {k : Nat} (hk : k < ls.length) : ls[k] = lkD ls k := by unfold lkD; rw [List.getD_eq_getElem?_getD, List.getElem?_eq_getElem hk]; rfl
/-- The cells of a lake. -/
theorem lake_cells {w : World} {al : Option Addr} {L cl : Nat} {ls : List LakeM} (h : RowAt w (.slice al L cl) ls.length 5 (ls.flatMap LakeM.cells)) {k : Nat} (hk : k < ls.length) : ∃ b o, al = some ⟨b, o, none⟩ ∧ b < w.heap.size ∧ w.cell? ⟨b, o + k * 5, none⟩ = some (.int .i64 (lkD ls k).least) ∧ w.cell? ⟨b, o + k * 5 + 1, none⟩ = some (.int .i64 (lkD ls k).most) ∧ w.cell? ⟨b, o + k * 5 + 2, none⟩ = some (.int .i64 (lkD ls k).start) ∧ w.cell? ⟨b, o + k * 5 + 3, none⟩ = some (.int .i64 (lkD ls k).turb) ∧ w.cell? ⟨b, o + k * 5 + 4, none⟩ = some (.int .i64 (lkD ls k).worth) := by
  obtain ⟨b, o, c, ex, hb, hc⟩ := row_elem lake_len h k hk (by decide)
  simp only [Value.slice.injEq] at ex
  rw [lk_at hk] at hc
  exact ⟨b, o, ex.1, hb, hc 0 _ rfl, hc 1 _ rfl, hc 2 _ rfl, hc 3 _ rfl, hc 4 _ rfl⟩
def startA (ls : List LakeM) (k : Nat) : Array Value := #[.int .i64 (if 0 < k then (lkD ls 0).start else 0), .int .i64 (if 1 < k then (lkD ls 1).start else 0), .int .i64 0, .int .i64 0]
theorem set4 (b0 b1 b2 b3 x0 x1 x2 x3 : Value) : (((#[b0, b1, b2, b3].setIfInBounds 0 x0).setIfInBounds 1 x1).setIfInBounds 2 x2).setIfInBounds 3 x3 = #[x0, x1, x2, x3] := by simp only [List.setIfInBounds_toArray, List.set_cons_zero, List.set_cons_succ]
theorem set_four {w : World} {A t : Nat} {c0 c1 c2 c3 : Value} (h : w.heap[A]? = some (.cells #[c0, c1, c2, c3] t (0, 0))) (x0 x1 x2 x3 : Value) : ((((w.setCell ⟨A, 0, none⟩ x0).setCell ⟨A, 1, none⟩ x1).setCell ⟨A, 2, none⟩ x2).setCell ⟨A, 3, none⟩ x3).heap[A]? = some (.cells #[x0, x1, x2, x3] t (0, 0)) := by
  have h1 := set_any (set_any (set_any (set_any h 0 x0) 1 x1) 2 x2) 3 x3
  rw [set4] at h1
  exact h1

set_option maxRecDepth 100000 in
set_option maxHeartbeats 2000000 in
theorem start_any (ls : List LakeM) (al : Option Addr) (L cl : Nat) (vi : Value) (w : World) (hx : RowAt w (.slice al L cl) ls.length 5 (ls.flatMap LakeM.cells)) (hl : ls.length = L) (hL : L ≤ 2) : Calls Try.prog 61 #[.agg #[.slice al L cl, vi]] w fun e w' => e = .returned (.agg (startA ls L)) ∧ Below w.heap.size w w' := by
  have HX := hide' hx
  have HL := hide' hl
  clear hx hl
  go_enter Try.func61, Try.ntmps61
  go_upto_region 1 with fail
  have hqB := (alloc_old (w.alloc (.cells #[.slice al L cl, vi] 75)) (.cells #[.int .i64 0, .int .i64 0, .int .i64 0, .int .i64 0] 119) (Array.getElem?_eq_some_iff.1 (alloc_new w (.cells #[.slice al L cl, vi] 75))).1).trans (alloc_new w (.cells #[.slice al L cl, vi] 75))
  have hqS := alloc_new (w.alloc (.cells #[.slice al L cl, vi] 75)) (.cells #[.int .i64 0, .int .i64 0, .int .i64 0, .int .i64 0] 119)
  have hb1 := (below_al w (.cells #[.slice al L cl, vi] 75)).alloc (below_al w (.cells #[.slice al L cl, vi] 75)).size (.cells #[.int .i64 0, .int .i64 0, .int .i64 0, .int .i64 0] 119)
  rw [show (w.alloc (.cells #[.slice al L cl, vi] 75)).heap.size = w.heap.size + 1 from World.size_alloc ..] at hqS
  obtain ⟨w1, hw1⟩ : ∃ x, x = (w.alloc (.cells #[.slice al L cl, vi] 75)).alloc (.cells #[.int .i64 0, .int .i64 0, .int .i64 0, .int .i64 0] 119) := ⟨_, rfl⟩
  rw [← hw1] at hqB hqS hb1 ⊢
  obtain ⟨B, hB⟩ : ∃ x, x = w.heap.size := ⟨_, rfl⟩
  obtain ⟨S, hS⟩ : ∃ x, x = w.heap.size + 1 := ⟨_, rfl⟩
  have HSS : Hid (w.heap.size ≤ S ∧ B ≠ S) := ⟨by omega, by omega⟩
  rw [← hS] at hqS
  rw [← hB] at hqB
  rw [show (Value.pointer (some { block := w.heap.size, off := 0 })) = Value.pointer (some { block := B, off := 0 }) by rw [hB], show (Value.pointer (some { block := w.heap.size + 1, off := 0 })) = Value.pointer (some { block := S, off := 0 }) by rw [hS]]
  have HB1 := hide' hb1
  have HQB := hide' hqB
  have HQS := hide' hqS
  have y0 : w1.cell? ⟨B, 0, none⟩ = some (.slice al L cl) := (cells_at hqB 0).trans rfl
  clear hqB hqS hb1 hw1 hB hS
  go_wp2_with fail
  clear y0
  go_loopw [8] (fun i wr => ∃ (k : Nat), i = .int .i64 k ∧ k ≤ L ∧ Hid (Bt [S] w1 wr ∧ wr.heap[S]? = some (.cells (startA ls k) 119 (0, 0)))) (fun i _ => L - (intOf i).toNat)
  case atStart => exact ⟨0, rfl, Nat.zero_le _, Bt.refl _ _, HQS.out⟩
  case round =>
    obtain ⟨k, rfl, hk, HW⟩ := hrel
    have f0 : ∀ o, (wr.alloc o).frozen? ⟨S, 0, none⟩ = false := fun o => frozen_no ((alloc_old wr o (lt_heap HW.out.2)).trans HW.out.2) 0
    have f1 : ∀ o, (wr.alloc o).frozen? ⟨S, 1, none⟩ = false := fun o => frozen_no ((alloc_old wr o (lt_heap HW.out.2)).trans HW.out.2) 1
    obtain ⟨v0, hv0⟩ : ∃ x : Int, x = (if 0 < k then (lkD ls 0).start else 0) := ⟨_, rfl⟩
    obtain ⟨v1, hv1⟩ : ∃ x : Int, x = (if 1 < k then (lkD ls 1).start else 0) := ⟨_, rfl⟩
    have g0 : ∀ o, (wr.alloc o).cell? ⟨S, 0, none⟩ = some (.int .i64 v0) := fun o => by rw [hv0]; exact (cells_at ((alloc_old wr o (lt_heap HW.out.2)).trans HW.out.2) 0).trans rfl
    have g1 : ∀ o, (wr.alloc o).cell? ⟨S, 1, none⟩ = some (.int .i64 v1) := fun o => by rw [hv1]; exact (cells_at ((alloc_old wr o (lt_heap HW.out.2)).trans HW.out.2) 1).trans rfl
    clear hv0 hv1
    by_cases hlt : k < L
    · obtain ⟨lb, lo, rfl, hlb, c0, c1, c2, c3, c4⟩ := lake_cells HX.out (k := k) (by rw [HL.out]; exact hlt)
      have hn : lb ∉ [S] := by have := HSS.out.1; simp; omega
      replace c0 := HW.out.1.cell (up_cell HB1.out c0) hn
      replace c1 := HW.out.1.cell (up_cell HB1.out c1) hn
      replace c2 := HW.out.1.cell (up_cell HB1.out c2) hn
      replace c3 := HW.out.1.cell (up_cell HB1.out c3) hn
      replace c4 := HW.out.1.cell (up_cell HB1.out c4) hn
      clear hn hlb
      have HSET : Hid (∀ o x, Bt [S] w1 ((wr.alloc o).setCell ⟨S, k, none⟩ x) ∧ ((wr.alloc o).setCell ⟨S, k, none⟩ x).heap[S]? = some (.cells ((startA ls k).setIfInBounds k x) 119 (0, 0))) := fun o x => ⟨(HW.out.1.al o).set (List.mem_cons_self ..) _ _, set_any ((alloc_old wr o (lt_heap HW.out.2)).trans HW.out.2) k x⟩
      have hk2 : k = 0 ∨ k = 1 := by omega
      clear HW
      rcases hk2 with rfl | rfl
      · simp only [Nat.zero_mul, Nat.add_zero] at c0 c1 c2 c3 c4
        go_wp2_with fail
        go_roundw
        case rel => exact ⟨1, by go_num, by omega, HSET.out _ _⟩
        case measure => simp [intOf]; omega
      · simp only [Nat.one_mul] at c0 c1 c2 c3 c4
        go_wp2_with fail
        go_roundw
        case rel => exact ⟨2, by go_num, by omega, HSET.out _ _⟩
        case measure => simp [intOf]; omega
    · obtain rfl : k = L := by omega
      have HA : Hid (∃ p0 p1 : Int, startA ls k = #[.int .i64 p0, .int .i64 p1, .int .i64 0, .int .i64 0]) := ⟨_, _, rfl⟩
      obtain ⟨p0, p1, hA⟩ := HA.out
      have HA2 := hide' hA
      have HW2 : Hid (wr.heap[S]? = some (.cells #[.int .i64 p0, .int .i64 p1, .int .i64 0, .int .i64 0] 119 (0, 0))) := by rw [← hA]; exact HW.out.2
      have y0 : wr.cell? ⟨S, 0, none⟩ = some (.int .i64 p0) := (cells_at HW2.out 0).trans rfl
      have y1 : wr.cell? ⟨S, 1, none⟩ = some (.int .i64 p1) := (cells_at HW2.out 1).trans rfl
      have y2 : wr.cell? ⟨S, 2, none⟩ = some (.int .i64 0) := (cells_at HW2.out 2).trans rfl
      have y3 : wr.cell? ⟨S, 3, none⟩ = some (.int .i64 0) := (cells_at HW2.out 3).trans rfl
      have t0 := frozen_no HW2.out 0
      have t1 := frozen_no HW2.out 1
      have t2 := frozen_no HW2.out 2
      have t3 := frozen_no HW2.out 3
      have HFI := hide' (set_four HW2.out (.int .i64 p0) (.int .i64 p1) (.int .i64 0) (.int .i64 0))
      have HBI : Hid (Below w.heap.size w ((((wr.setCell ⟨S, 0, none⟩ (.int .i64 p0)).setCell ⟨S, 1, none⟩ (.int .i64 p1)).setCell ⟨S, 2, none⟩ (.int .i64 0)).setCell ⟨S, 3, none⟩ (.int .i64 0))) := ((((HW.out.1.set (List.mem_cons_self ..) _ _).set (List.mem_cons_self ..) _ _).set (List.mem_cons_self ..) _ _).set (List.mem_cons_self ..) _ _).below HB1.out (Nat.le_refl _) (fun m hm => by rw [List.mem_singleton.1 hm]; exact HSS.out.1)
      clear f0 f1 g0 g1 HW HW2 hA HA
      go_wp2_with fail
      refine bodyPost_ret (results_cell_row rfl _ _ S 119 _ (0, 0) _ rfl HFI.out Try.underlying119 rfl (by kernel_rfl)) rfl ?_
      exact ⟨by rw [HA2.out], HBI.out⟩
end Go.Proofs.Ytnhddmcdmcpkeaj
