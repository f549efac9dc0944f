/- Which points are together with some, in the document's answer. -/
import Derived.Test.YtcnoipcpifackahZ1
namespace Go.Proofs.Ytcnoipcpifackah
open Go.RowKit Go.Shelf

/-- Signs at work, beside a yard's box. -/
structure VSt (w wr : World) (B T : Nat) (bv : Array Value) (l : List Bool) : Prop where
  hB : wr.heap[B]? = some (.cells bv 25 (0, 0))
  hT : wr.heap[T]? = some (.cells (l.map Value.bool).toArray 4 (0, 0))
  sT : w.heap.size ≤ T
  bel : Below w.heap.size w wr
theorem VSt.more {w wr wr' : World} {B T : Nat} {bv : Array Value} {l : List Bool} (h : VSt w wr B T bv l) (hb : Below wr.heap.size wr wr') : VSt w wr' B T bv l :=
  ⟨(hb.block B (Array.getElem?_eq_some_iff.1 h.hB).1).trans h.hB, (hb.block T (Array.getElem?_eq_some_iff.1 h.hT).1).trans h.hT, h.sT, h.bel.trans (hb.mono h.bel.size)⟩
theorem VSt.set {w wr : World} {B T m : Nat} {bv : Array Value} {l : List Bool} (h : VSt w wr B T bv l) (b : Bool) : VSt w (wr.setCell ⟨T, m, none⟩ (.bool b)) B T bv (l.set m b) := by
  refine ⟨(Below.heap_setCell _ _ _ B (fun e => ?_)).trans h.hB, ?_, h.sT, h.bel.setCell (p := ⟨T, m, none⟩) h.sT _⟩
  · have e' : B = T := e
    have h1 := h.hB
    rw [e', h.hT] at h1
    cases h1
  · rw [set_any h.hT m (.bool b)]
    simp
theorem these_take {n k : Nat} {fs : List Int} {q : Int} (h : fs[k]? = some q) : theseL n (fs.take (k + 1)) = (theseL n (fs.take k)).set q.toNat true := by
  obtain ⟨hk, rfl⟩ := List.getElem?_eq_some_iff.1 h
  unfold theseL
  rw [List.take_succ_eq_append_getElem hk, List.foldl_append]
  rfl
set_option maxRecDepth 100000 in
set_option maxHeartbeats 2000000 in
theorem these_any (fs : List Int) (n : Nat) (af ad as' : Option Addr) (lf cf ld cd ls cs : Nat) (v : Value) (w : World) (hx : RowAt w v fs.length 1 (ints fs)) (hq : ∀ q ∈ fs, 0 ≤ q ∧ q < n) (hn : n ≤ 1000) (hll : fs.length ≤ 9000000000000000000) :
    Calls Try.prog 54 #[.agg #[.int .i64 n, .slice af lf cf, .slice ad ld cd, .slice as' ls cs], v] w fun e w' => ∃ T, e = .returned (.slice (some ⟨T, 0, none⟩) n n) ∧ w'.ownsRow w.heap.size 4 1 (.slice (some ⟨T, 0, none⟩) n n) n ((theseL n fs).map Value.bool) ∧ Below w.heap.size w w' := by
  obtain ⟨i4, hi4, h40, h41, h42⟩ := info_parts Try.info4
  have HX := hide' hx
  have HQ := hide' hq
  obtain ⟨al, cl, rfl⟩ := rowAt_slice hx
  clear hx hq
  go_enter Try.func54, Try.ntmps54
  go_upto_region 1 with fail
  have HW1 : Hid ((w.alloc (.cells #[.int .i64 n, .slice af lf cf, .slice ad ld cd, .slice as' ls cs] 25)).heap[w.heap.size]? = some (.cells #[.int .i64 n, .slice af lf cf, .slice ad ld cd, .slice as' ls cs] 25 (0, 0))) := alloc_new _ _
  have HB1 := hide' (below_al w (.cells #[.int .i64 n, .slice af lf cf, .slice ad ld cd, .slice as' ls cs] 25))
  obtain ⟨B, hB⟩ : ∃ B, B = w.heap.size := ⟨_, rfl⟩
  obtain ⟨w1, hw1⟩ : ∃ x, x = w.alloc (.cells #[.int .i64 n, .slice af lf cf, .slice ad ld cd, .slice as' ls cs] 25) := ⟨_, rfl⟩
  rw [← hw1] at HW1 HB1 ⊢
  rw [← hB] at HW1
  rw [show (Value.pointer (some { block := w.heap.size, off := 0 })) = Value.pointer (some { block := B, off := 0 }) by rw [hB]]
  clear hB hw1
  have b0 : w1.cell? ⟨B, 0, none⟩ = some (.int .i64 n) := (cells_at HW1.out 0).trans rfl
  go_wp2_with (at_make; refine wpList_make_full _ rfl _ _ 32 rfl w1.heap.size 4 i4 (.bool false) 1 Try.underlying32 hi4 h40 h41 .i64 .i64 _ _ n rfl rfl rfl rfl (by rw [h42]; omega) (by unfold maxLen; omega) (Nat.le_refl _) ?_; intro w2 hown hgr; refine Still.go ?_)
  unfold Still
  have hb2 : Below w1.heap.size w1 w2 := (Below.refl _ w1).grown hgr (Nat.le_refl _) (fun k e => by cases e)
  have HST0 : Hid (VSt w w2 B w1.heap.size #[.int .i64 n, .slice af lf cf, .slice ad ld cd, .slice as' ls cs] (List.replicate n false)) := by
    have h1 := row_cells hown
    rw [made_bool] at h1
    exact ⟨(hb2.block B (Array.getElem?_eq_some_iff.1 HW1.out).1).trans HW1.out, by rw [List.map_replicate]; exact h1, HB1.out.size, HB1.out.trans (hb2.mono HB1.out.size)⟩
  obtain ⟨T, hT⟩ : ∃ T, T = w1.heap.size := ⟨_, rfl⟩
  rw [← hT] at HST0 ⊢
  clear hown hgr hb2 hT HW1 HB1 b0
  go_wp2_with fail
  go_loopw [6] (fun i wr => ∃ (k : Nat), i = .int .i64 k ∧ k ≤ fs.length ∧ Hid (VSt w wr B T #[.int .i64 n, .slice af lf cf, .slice ad ld cd, .slice as' ls cs] (theseL n (fs.take k)))) (fun i _ => fs.length - (intOf i).toNat)
  case atStart => exact ⟨0, rfl, Nat.zero_le _, HST0⟩
  case round =>
    clear HST0
    obtain ⟨k, rfl, hk, HST⟩ := hrel
    by_cases hlt : k < fs.length
    · obtain ⟨bt, ot, ct, ex, hc⟩ := ints_cell HX.out k hlt
      cases ex
      have c0 := up_cell HST.out.bel hc
      have hqk := HQ.out fs[k] (List.getElem_mem hlt)
      have HK : Hid (fs.getD k 0 = fs[k]) := by show _ = _; rw [List.getD_eq_getElem?_getD, List.getElem?_eq_getElem hlt]; rfl
      obtain ⟨q, hqe⟩ : ∃ q : Nat, fs[k] = (q : Int) := ⟨fs[k].toNat, by omega⟩
      rw [HK.out, hqe] at c0
      have HTK : Hid (theseL n (fs.take (k + 1)) = (theseL n (fs.take k)).set q true) := by
        have h1 := these_take (n := n) (List.getElem?_eq_getElem hlt)
        rw [hqe, Int.toNat_natCast] at h1
        exact h1
      have hqn : q < n := by omega
      have g0 := bools_cell (m := q) HST.out.hT (by rw [theseL_len]; exact hqn)
      have g1 : wr.frozen? ⟨T, q, none⟩ = false := frozen_no HST.out.hT _
      have HNX := hide' (HST.out.set (m := q) true)
      rw [← HTK.out] at HNX
      clear hc hqk hqe HK HST HTK
      go_wp2
      go_roundw
      case rel => exact ⟨k + 1, by go_num, by omega, HNX⟩
      case measure => simp [intOf]; omega
    · have hke : fs.length = k := by omega
      have HOW : Hid (wr.ownsRow w.heap.size 4 1 (.slice (some ⟨T, 0, none⟩) n n) n ((theseL n fs).map Value.bool)) := by
        have h1 := HST.out.hT
        rw [List.take_of_length_le (by omega)] at h1
        exact bools_own h1 HST.out.sT (theseL_len _ _) hn
      have HB := hide' HST.out.bel
      clear HST hke
      go_wp2
      go_ret
      exact ⟨T, rfl, HOW.out, HB.out⟩
end Go.Proofs.Ytcnoipcpifackah
