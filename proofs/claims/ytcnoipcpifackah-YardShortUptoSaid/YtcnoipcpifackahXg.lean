/- A yard as a number tells it. -/
import Derived.Test.YtcnoipcpifackahXf
import Derived.Test.YtcnoipcpifackahZ6
namespace Go.Proofs.Ytcnoipcpifackah
open Go.RowKit Go.Shelf

theorem lt_heap {w : World} {k : Nat} {o : Obj} (h : w.heap[k]? = some o) : k < w.heap.size := (Array.getElem?_eq_some_iff.1 h).1
/-- The j-th bit. -/
def bitN (c j : Nat) : Bool := decide (c / 2 ^ j % 2 = 1)
/-- The first k devices as a number tells them. -/
def turnK (ds : List DevM) (c k : Nat) : List DevM := ds.mapIdx fun j d => if j < k then { d with shut := bitN c j } else d
theorem turnK_len (ds : List DevM) (c k : Nat) : (turnK ds c k).length = ds.length := by unfold turnK; rw [List.length_mapIdx]
theorem turnK_get (ds : List DevM) (c k j : Nat) (h : j < (turnK ds c k).length) : (turnK ds c k)[j] = if j < k then { ds[j]'(by rw [turnK_len] at h; exact h) with shut := bitN c j } else ds[j]'(by rw [turnK_len] at h; exact h) := by simp only [turnK, List.getElem_mapIdx]
theorem turnK_zero (ds : List DevM) (c : Nat) : turnK ds c 0 = ds := by
  apply List.ext_getElem (turnK_len ds c 0)
  intro j h1 h2
  rw [turnK_get, if_neg (Nat.not_lt_zero _)]
theorem turnK_next (ds : List DevM) (c k : Nat) : (turnK ds c k).modify k (fun d => { d with shut := bitN c k }) = turnK ds c (k + 1) := by
  apply List.ext_getElem (by rw [List.length_modify, turnK_len, turnK_len])
  intro j h1 h2
  rw [List.getElem_modify, turnK_get, turnK_get]
  by_cases e : k = j
  · subst e
    rw [if_pos rfl, if_neg (Nat.lt_irrefl _), if_pos (Nat.lt_succ_self _)]
  · rw [if_neg e]
    by_cases e2 : j < k
    · rw [if_pos e2, if_pos (by omega)]
    · rw [if_neg e2, if_neg (by omega)]
theorem put4 {w : World} {A e : Nat} {x0 x1 x2 x3 : Value} (h : w.heap[A]? = some (.cells #[x0, x1, x2, x3] e (0, 0))) (v0 v1 v2 v3 : Value) : ((((w.setCell ⟨A, 0, none⟩ v0).setCell ⟨A, 1, none⟩ v1).setCell ⟨A, 2, none⟩ v2).setCell ⟨A, 3, none⟩ v3).heap[A]? = some (.cells #[v0, v1, v2, v3] e (0, 0)) ∧ But A w ((((w.setCell ⟨A, 0, none⟩ v0).setCell ⟨A, 1, none⟩ v1).setCell ⟨A, 2, none⟩ v2).setCell ⟨A, 3, none⟩ v3) :=
  ⟨(set_any (set_any (set_any (set_any h 0 _) 1 _) 2 _) 3 _).trans (by simp only [List.setIfInBounds_toArray, List.set_cons_zero, List.set_cons_succ]), But.set (But.set (But.set (But.set (But.refl A w) _ _) _ _) _ _) _ _⟩
set_option maxRecDepth 100000 in
set_option maxHeartbeats 4000000 in
theorem coded_any (y : YardM) (c0 : Nat) (af ad as' : Option Addr) (cf cd cs : Nat) (w : World) (hy : YardAt w af ad as' cf cd cs y) (hf : y.fed.length ≤ 2000000) (hd : y.drawn.length ≤ 2000000) (hs : y.devs.length ≤ 2000000) (hc : c0 ≤ 1000000000) :
    Calls Try.prog 26 #[.agg #[.int .i64 y.points, .slice af y.fed.length cf, .slice ad y.drawn.length cd, .slice as' y.devs.length cs], .int .i64 (c0 : Int)] w fun e w' => ∃ af2 ad2 as2 cf2 cd2 cs2, e = .returned (.agg #[.int .i64 y.points, .slice af2 y.fed.length cf2, .slice ad2 y.drawn.length cd2, .slice as2 y.devs.length cs2]) ∧ YardAt w' af2 ad2 as2 cf2 cd2 cs2 ⟨y.points, y.fed, y.drawn, turnK y.devs c0 y.devs.length⟩ ∧ Below w.heap.size w w' := by
  have HYO := hide' (fun z (hb : Below w.heap.size w z) => YardOf_own y af ad as' cf cd cs z (hy.below hb (Nat.le_refl _)) hf hd hs)
  obtain ⟨pt, fd, dr, ds⟩ := y
  simp only at HYO hf hd hs ⊢
  obtain ⟨lf, hlf⟩ : ∃ x, x = fd.length := ⟨_, rfl⟩
  obtain ⟨ld, hld⟩ : ∃ x, x = dr.length := ⟨_, rfl⟩
  obtain ⟨ls, hls⟩ : ∃ x, x = ds.length := ⟨_, rfl⟩
  have HLN : Hid (lf = fd.length ∧ ld = dr.length ∧ ls = ds.length) := ⟨hlf, hld, hls⟩
  rw [← hlf, ← hld, ← hls] at HYO ⊢
  rw [← hls] at hs
  have HGO : Hid (∀ w' af2 ad2 as2 cf2 cd2 cs2, w'.ownsRow w.heap.size 3 1 (.slice af2 lf cf2) lf (ints fd) → w'.ownsRow w.heap.size 3 1 (.slice ad2 ld cd2) ld (ints dr) → w'.ownsRow w.heap.size 45 4 (.slice as2 ls cs2) ls ((turnK ds c0 ls).flatMap DevM.cells) → YardAt w' af2 ad2 as2 cf2 cd2 cs2 ⟨pt, fd, dr, turnK ds c0 ls⟩) := fun w' af2 ad2 as2 cf2 cd2 cs2 h1 h2 h3 => by
    subst hlf hld hls
    refine ⟨rowAt_of_own h1, rowAt_of_own h2, ?_⟩
    show RowAt w' (.slice as2 (turnK ds c0 ds.length).length cs2) (turnK ds c0 ds.length).length 4 ((turnK ds c0 ds.length).flatMap DevM.cells)
    rw [turnK_len]
    exact rowAt_of_own h3
  clear hy hf hd hlf hld hls
  go_enter Try.func26, Try.ntmps26
  go_upto_region 1 with fail
  have hqY := (alloc_old (w.alloc (.cells #[.int .i64 pt, .slice af lf cf, .slice ad ld cd, .slice as' ls cs] 25)) (.cells #[.int .i64 0, .slice none 0 0, .slice none 0 0, .slice none 0 0] 25) (lt_heap (alloc_new w (.cells #[.int .i64 pt, .slice af lf cf, .slice ad ld cd, .slice as' ls cs] 25)))).trans (alloc_new w (.cells #[.int .i64 pt, .slice af lf cf, .slice ad ld cd, .slice as' ls cs] 25))
  have hqA := alloc_new (w.alloc (.cells #[.int .i64 pt, .slice af lf cf, .slice ad ld cd, .slice as' ls cs] 25)) (.cells #[.int .i64 0, .slice none 0 0, .slice none 0 0, .slice none 0 0] 25)
  have hb1 := (below_al w (.cells #[.int .i64 pt, .slice af lf cf, .slice ad ld cd, .slice as' ls cs] 25)).alloc (below_al w (.cells #[.int .i64 pt, .slice af lf cf, .slice ad ld cd, .slice as' ls cs] 25)).size (.cells #[.int .i64 0, .slice none 0 0, .slice none 0 0, .slice none 0 0] 25)
  rw [show (w.alloc (.cells #[.int .i64 pt, .slice af lf cf, .slice ad ld cd, .slice as' ls cs] 25)).heap.size = w.heap.size + 1 from by simp only [World.size_alloc]] at hqA
  obtain ⟨w1, hw1⟩ : ∃ x, x = ((w.alloc (.cells #[.int .i64 pt, .slice af lf cf, .slice ad ld cd, .slice as' ls cs] 25)).alloc (.cells #[.int .i64 0, .slice none 0 0, .slice none 0 0, .slice none 0 0] 25)) := ⟨_, rfl⟩
  rw [← hw1] at hqY hqA hb1 ⊢
  obtain ⟨Y, hnY⟩ : ∃ x, x = w.heap.size := ⟨_, rfl⟩
  obtain ⟨A, hnA⟩ : ∃ x, x = w.heap.size + 1 := ⟨_, rfl⟩
  have HNE : Hid (w.heap.size ≤ Y ∧ w.heap.size ≤ A ∧ Y ≠ A) := ⟨by omega, by omega, by omega⟩
  rw [← hnY] at hqY
  rw [← hnA] at hqA
  rw [show (Value.pointer (some { block := w.heap.size, off := 0 })) = Value.pointer (some { block := Y, off := 0 }) by rw [hnY], show (Value.pointer (some { block := w.heap.size + 1, off := 0 })) = Value.pointer (some { block := A, off := 0 }) by rw [hnA]]
  have HQY := hide' hqY
  have HQA := hide' hqA
  have HB1 := hide' hb1
  clear hqY hqA hb1 hw1 hnY hnA
  have m0 : w1.cell? ⟨Y, 0, none⟩ = some (.int .i64 pt) := (cells_at HQY.out 0).trans rfl
  have m1 : w1.cell? ⟨Y, 1, none⟩ = some (.slice af lf cf) := (cells_at HQY.out 1).trans rfl
  have m2 : w1.cell? ⟨Y, 2, none⟩ = some (.slice ad ld cd) := (cells_at HQY.out 2).trans rfl
  have m3 : w1.cell? ⟨Y, 3, none⟩ = some (.slice as' ls cs) := (cells_at HQY.out 3).trans rfl
  go_wp2_with fail
  refine (HYO.out w1 HB1.out).mono ?_
  rintro e w2 ⟨af2, ad2, as2, cf2, cd2, cs2, rfl, ⟨ho1, ho2, ho3⟩, hb2⟩
  have HA2 := hide' ((hb2.block A (Array.getElem?_eq_some_iff.1 HQA.out).1).trans HQA.out)
  have HO2 : Hid (w2.ownsRow w.heap.size 3 1 (.slice af2 lf cf2) lf (ints fd) ∧ w2.ownsRow w.heap.size 3 1 (.slice ad2 ld cd2) ld (ints dr) ∧ w2.ownsRow w.heap.size 45 4 (.slice as2 ls cs2) ls (ds.flatMap DevM.cells) ∧ Below w.heap.size w w2) := ⟨own_base ho1 HB1.out.size, own_base ho2 HB1.out.size, own_base ho3 HB1.out.size, HB1.out.trans (hb2.mono HB1.out.size)⟩
  have HNA := hide' HNE.out.2.1
  clear ho1 ho2 ho3 hb2 HYO HQY HQA HB1 HNE m0 m1 m2 m3
  go_upto_region 2 with fail
  have hqE := alloc_new w2 (.cells #[.int .i64 pt, .slice af2 lf cf2, .slice ad2 ld cd2, .slice as2 ls cs2] 25)
  have hb1 := below_al w2 (.cells #[.int .i64 pt, .slice af2 lf cf2, .slice ad2 ld cd2, .slice as2 ls cs2] 25)
  obtain ⟨w3, hw1⟩ : ∃ x, x = (w2.alloc (.cells #[.int .i64 pt, .slice af2 lf cf2, .slice ad2 ld cd2, .slice as2 ls cs2] 25)) := ⟨_, rfl⟩
  rw [← hw1] at hqE hb1 ⊢
  obtain ⟨E, hnE⟩ : ∃ x, x = w2.heap.size := ⟨_, rfl⟩
  have HNE : Hid (w2.heap.size ≤ E) := by show _ ≤ _; omega
  rw [← hnE] at hqE
  rw [show (Value.pointer (some { block := w2.heap.size, off := 0 })) = Value.pointer (some { block := E, off := 0 }) by rw [hnE]]
  have HQE := hide' hqE
  have HB1 := hide' hb1
  clear hqE hb1 hw1 hnE
  have HST : Hid (w3.ownsRow w.heap.size 3 1 (.slice af2 lf cf2) lf (ints fd) ∧ w3.ownsRow w.heap.size 3 1 (.slice ad2 ld cd2) ld (ints dr) ∧ w3.ownsRow w.heap.size 45 4 (.slice as2 ls cs2) ls ((turnK ds c0 0).flatMap DevM.cells) ∧ w3.heap[E]? = some (.cells #[.int .i64 pt, .slice af2 lf cf2, .slice ad2 ld cd2, .slice as2 ls cs2] 25 (0, 0)) ∧ w3.heap[A]? = some (.cells #[.int .i64 0, .slice none 0 0, .slice none 0 0, .slice none 0 0] 25 (0, 0)) ∧ Below w.heap.size w w3) := by
    refine ⟨own_below HO2.out.1 HB1.out (Nat.le_refl _), own_below HO2.out.2.1 HB1.out (Nat.le_refl _), ?_, HQE.out, (HB1.out.block A (Array.getElem?_eq_some_iff.1 HA2.out).1).trans HA2.out, HO2.out.2.2.2.trans (HB1.out.mono HO2.out.2.2.2.size)⟩
    rw [turnK_zero]
    exact own_below HO2.out.2.2.1 HB1.out (Nat.le_refl _)
  clear HQE HNE HB1 HO2 HA2
  go_wp2_with fail
  go_loopw [1, 6] (fun cv iv wr => ∃ (k : Nat), iv = .int .i64 k ∧ cv = .int .i64 ((c0 / 2 ^ k : Nat) : Int) ∧ k ≤ ls ∧ Hid (wr.ownsRow w.heap.size 3 1 (.slice af2 lf cf2) lf (ints fd) ∧ wr.ownsRow w.heap.size 3 1 (.slice ad2 ld cd2) ld (ints dr) ∧ wr.ownsRow w.heap.size 45 4 (.slice as2 ls cs2) ls ((turnK ds c0 k).flatMap DevM.cells) ∧ wr.heap[E]? = some (.cells #[.int .i64 pt, .slice af2 lf cf2, .slice ad2 ld cd2, .slice as2 ls cs2] 25 (0, 0)) ∧ wr.heap[A]? = some (.cells #[.int .i64 0, .slice none 0 0, .slice none 0 0, .slice none 0 0] 25 (0, 0)) ∧ Below w.heap.size w wr)) (fun _ iv _ => ls - (intOf iv).toNat)
  case atStart => exact ⟨0, rfl, by rw [Nat.pow_zero, Nat.div_one], Nat.zero_le _, HST.out⟩
  case round =>
    clear HST
    obtain ⟨k, rfl, rfl, hk, HS⟩ := hrel
    by_cases hlt : k < ls
    · obtain ⟨V, cpv, cur, hav, hVB, hVH⟩ : ∃ V cpv cur, as2 = some ⟨V, 0, none⟩ ∧ w.heap.size ≤ V ∧ wr.heap[V]? = some (.cells cur 45 (0, 0)) ∧ cpv = cs2 := by
        rcases HS.out.2.2.1.2 with ⟨h1, _⟩ | ⟨g, cp, cur, h1, h2, h3, _⟩
        · cases h1
          omega
        · cases h1
          exact ⟨g, cs2, cur, rfl, h2, h3, rfl⟩
      subst hav
      have HVH := hide' hVH.1
      have HVE : Hid (V ≠ E ∧ V ≠ A) := by
        refine ⟨fun q => ?_, fun q => ?_⟩
        · have h1 := HVH.out
          rw [q, HS.out.2.2.2.1] at h1
          cases h1
        · have h1 := HVH.out
          rw [q, HS.out.2.2.2.2.1] at h1
          cases h1
      have hdl : (turnK ds c0 k).length = ls := by rw [turnK_len]; exact HLN.out.2.2.symm
      obtain ⟨b1, o1, c1, ex1, _, hce⟩ := row_elem (f := DevM.cells) (sz := 4) (fun _ => rfl) (rowAt_of_own HS.out.2.2.1) k (by omega) (by decide)
      simp only [Value.slice.injEq, Option.some.injEq, Addr.mk.injEq] at ex1
      obtain ⟨⟨rfl, rfl, _⟩, _, rfl⟩ := ex1
      have m3 : wr.cell? ⟨V, k * 4 + 3, none⟩ = some (.bool ((turnK ds c0 k)[k]'(by omega)).shut) := by
        have := hce 3 _ rfl
        rwa [Nat.zero_add] at this
      have f3 : wr.frozen? ⟨V, k * 4 + 3, none⟩ = false := frozen_no HVH.out _
      have q3 : wr.cell? ⟨E, 3, none⟩ = some (.slice (some ⟨V, 0, none⟩) ls cs2) := (cells_at HS.out.2.2.2.1 3).trans rfl
      have HNS : Hid ((wr.setCell ⟨V, k * 4 + 3, none⟩ (.bool (bitN c0 k))).ownsRow w.heap.size 3 1 (.slice af2 lf cf2) lf (ints fd) ∧ (wr.setCell ⟨V, k * 4 + 3, none⟩ (.bool (bitN c0 k))).ownsRow w.heap.size 3 1 (.slice ad2 ld cd2) ld (ints dr) ∧ (wr.setCell ⟨V, k * 4 + 3, none⟩ (.bool (bitN c0 k))).ownsRow w.heap.size 45 4 (.slice (some ⟨V, 0, none⟩) ls cs2) ls ((turnK ds c0 (k + 1)).flatMap DevM.cells) ∧ (wr.setCell ⟨V, k * 4 + 3, none⟩ (.bool (bitN c0 k))).heap[E]? = some (.cells #[.int .i64 pt, .slice af2 lf cf2, .slice ad2 ld cd2, .slice (some ⟨V, 0, none⟩) ls cs2] 25 (0, 0)) ∧ (wr.setCell ⟨V, k * 4 + 3, none⟩ (.bool (bitN c0 k))).heap[A]? = some (.cells #[.int .i64 0, .slice none 0 0, .slice none 0 0, .slice none 0 0] 25 (0, 0)) ∧ Below w.heap.size w (wr.setCell ⟨V, k * 4 + 3, none⟩ (.bool (bitN c0 k)))) := by
        have hk := keep_set HVH.out (k * 4 + 3) (.bool (bitN c0 k))
        refine ⟨own_keep HS.out.1 hk (by decide), own_keep HS.out.2.1 hk (by decide), ?_, (Below.heap_setCell wr ⟨V, k * 4 + 3, none⟩ _ E (Ne.symm HVE.out.1)).trans HS.out.2.2.2.1, (Below.heap_setCell wr ⟨V, k * 4 + 3, none⟩ _ A (Ne.symm HVE.out.2)).trans HS.out.2.2.2.2.1, HS.out.2.2.2.2.2.setCell (p := ⟨V, k * 4 + 3, none⟩) hVB _⟩
        rw [← turnK_next]
        exact own_dev_set HS.out.2.2.1 k (bitN c0 k) hlt
      obtain ⟨m, hm⟩ : ∃ m, m = c0 / 2 ^ k := ⟨_, rfl⟩
      have hmb : m ≤ 1000000000 := by rw [hm]; exact Nat.le_trans (Nat.div_le_self _ _) hc
      have HM2 : Hid (c0 / 2 ^ (k + 1) = m / 2) := by show _ = _; rw [hm, Nat.pow_succ, Nat.div_div_eq_div_mul]
      have HBT : Hid (bitN c0 k = ((m : Int) % 2 == 1)) := by show _ = _; unfold bitN; rw [← hm, Bool.eq_iff_iff, decide_eq_true_eq, beq_iff_eq]; omega
      rw [← hm]
      rw [HBT.out] at HNS
      obtain ⟨sh, hsh⟩ : ∃ x, x = ((turnK ds c0 k)[k]'(by omega)).shut := ⟨_, rfl⟩
      rw [← hsh] at m3
      clear hsh hce hVH hdl hm HS HVH HVE HBT hVB
      go_wp2_with fail
      go_roundw
      case rel => exact ⟨k + 1, by go_num, by rw [HM2.out]; first | rfl | (congr 1; omega), by omega, HNS.out⟩
      case measure => simp only [intOf]; omega
    · obtain rfl : k = ls := by omega
      have HEE := hide' HS.out.2.2.2.1
      have HAA := hide' HS.out.2.2.2.2.1
      have q0 : wr.cell? ⟨E, 0, none⟩ = some (.int .i64 pt) := (cells_at HEE.out 0).trans rfl
      have q1 : wr.cell? ⟨E, 1, none⟩ = some (.slice af2 lf cf2) := (cells_at HEE.out 1).trans rfl
      have q2 : wr.cell? ⟨E, 2, none⟩ = some (.slice ad2 ld cd2) := (cells_at HEE.out 2).trans rfl
      have q3 : wr.cell? ⟨E, 3, none⟩ = some (.slice as2 k cs2) := (cells_at HEE.out 3).trans rfl
      have z0 : wr.cell? ⟨A, 0, none⟩ = some (.int .i64 0) := (cells_at HAA.out 0).trans rfl
      have z1 : wr.cell? ⟨A, 1, none⟩ = some (.slice none 0 0) := (cells_at HAA.out 1).trans rfl
      have z2 : wr.cell? ⟨A, 2, none⟩ = some (.slice none 0 0) := (cells_at HAA.out 2).trans rfl
      have z3 : wr.cell? ⟨A, 3, none⟩ = some (.slice none 0 0) := (cells_at HAA.out 3).trans rfl
      have y0 : wr.frozen? ⟨A, 0, none⟩ = false := frozen_no HAA.out _
      have y1 : wr.frozen? ⟨A, 1, none⟩ = false := frozen_no HAA.out _
      have y2 : wr.frozen? ⟨A, 2, none⟩ = false := frozen_no HAA.out _
      have y3 : wr.frozen? ⟨A, 3, none⟩ = false := frozen_no HAA.out _
      have HP := hide' (put4 HAA.out (.int .i64 pt) (.slice af2 lf cf2) (.slice ad2 ld cd2) (.slice as2 k cs2))
      have HK : Hid (∀ z, But A wr z → KeepE 25 wr z) := fun z hb j cur e1 fz h1 h2 => hb.block j (lt_heap h1) (fun q => by
        rw [q, HAA.out] at h1
        cases h1
        exact h2 rfl)
      have HFN : Hid (YardAt ((((wr.setCell ⟨A, 0, none⟩ (.int .i64 pt)).setCell ⟨A, 1, none⟩ (.slice af2 lf cf2)).setCell ⟨A, 2, none⟩ (.slice ad2 ld cd2)).setCell ⟨A, 3, none⟩ (.slice as2 k cs2)) af2 ad2 as2 cf2 cd2 cs2 ⟨pt, fd, dr, turnK ds c0 k⟩ ∧ Below w.heap.size w ((((wr.setCell ⟨A, 0, none⟩ (.int .i64 pt)).setCell ⟨A, 1, none⟩ (.slice af2 lf cf2)).setCell ⟨A, 2, none⟩ (.slice ad2 ld cd2)).setCell ⟨A, 3, none⟩ (.slice as2 k cs2))) := by
        have hk := HK.out _ HP.out.2
        refine ⟨HGO.out _ _ _ _ _ _ _ (own_keep HS.out.1 hk (by decide)) (own_keep HS.out.2.1 hk (by decide)) (own_keep HS.out.2.2.1 hk (by decide)), ?_⟩
        exact (((HS.out.2.2.2.2.2.setCell (p := ⟨A, 0, none⟩) HNA.out _).setCell (p := ⟨A, 1, none⟩) HNA.out _).setCell (p := ⟨A, 2, none⟩) HNA.out _).setCell (p := ⟨A, 3, none⟩) HNA.out _
      clear HS HEE HK HGO
      go_wp2
      refine bodyPost_ret (results_cell_row rfl _ _ A 25 _ (0, 0) _ rfl HP.out.1 Try.underlying25 rfl (by kernel_rfl)) rfl ?_
      exact ⟨_, _, _, _, _, _, rfl, HFN.out.1, HFN.out.2⟩
end Go.Proofs.Ytcnoipcpifackah
