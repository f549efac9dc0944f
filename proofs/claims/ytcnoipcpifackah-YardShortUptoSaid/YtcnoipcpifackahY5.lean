/- Of each point whether it is together with one of these, in the program. -/
import Derived.Test.YtcnoipcpifackahY4
namespace Go.Proofs.Ytcnoipcpifackah
open Go.RowKit Go.Shelf

theorem Try.info3 : (Try.prog.info? 3).map (fun i => (i.zero, i.size, i.bytes)) = some (some (.int .i64 0), 1, 8) := by kernel_rfl
theorem Try.info4 : (Try.prog.info? 4).map (fun i => (i.zero, i.size, i.bytes)) = some (some (.bool false), 1, 1) := by kernel_rfl
/-- Signs at work, beside a box. -/
structure TSt (w wr : World) (B T : Nat) (bv : Array Value) (l : List Bool) : Prop where
  hB : wr.heap[B]? = some (.cells bv 50 (0, 0))
  hT : wr.heap[T]? = some (.cells (l.map Value.bool).toArray 4 (0, 0))
  sT : w.heap.size ≤ T
  bel : Below w.heap.size w wr
theorem TSt.more {w wr wr' : World} {B T : Nat} {bv : Array Value} {l : List Bool} (h : TSt w wr B T bv l) (hb : Below wr.heap.size wr wr') : TSt w wr' B T bv l :=
  ⟨(hb.block B (Array.getElem?_eq_some_iff.1 h.hB).1).trans h.hB, (hb.block T (Array.getElem?_eq_some_iff.1 h.hT).1).trans h.hT, h.sT, h.bel.trans (hb.mono h.bel.size)⟩
theorem TSt.set {w wr : World} {B T m : Nat} {bv : Array Value} {l : List Bool} (h : TSt w wr B T bv l) (b : Bool) : TSt w (wr.setCell ⟨T, m, none⟩ (.bool b)) B T bv (l.set m b) := by
  refine ⟨(Below.heap_setCell _ _ _ B (fun e => ?_)).trans h.hB, ?_, h.sT, h.bel.setCell (p := ⟨T, m, none⟩) h.sT _⟩
  · have e' : B = T := e
    have h1 := h.hB
    rw [e', h.hT] at h1
    cases h1
  · rw [set_any h.hT m (.bool b)]
    simp
theorem cells_at {w : World} {g : Nat} {cur : Array Value} {e : TypeId} {fz : Nat × Nat} (h : w.heap[g]? = some (.cells cur e fz)) (j : Nat) : w.cell? ⟨g, j, none⟩ = cur[j]? := by simp [World.cell?, h]
theorem bools_own {w : World} {B T n : Nat} {l : List Bool} (h : w.heap[T]? = some (.cells (l.map Value.bool).toArray 4 (0, 0))) (hs : B ≤ T) (hl : l.length = n) (hn : n ≤ 1000) : w.ownsRow B 4 1 (.slice (some ⟨T, 0, none⟩) n n) n (l.map Value.bool) := by
  subst hl
  exact ⟨by simp, .inr ⟨T, _, _, rfl, hs, h, Nat.le_refl _, by unfold maxLen; omega, by simp, by rw [List.take_of_length_le (by simp)]⟩⟩
theorem bools_cell {w : World} {T m : Nat} {l : List Bool} (h : w.heap[T]? = some (.cells (l.map Value.bool).toArray 4 (0, 0))) (hm : m < l.length) : w.cell? ⟨T, m, none⟩ = some (.bool (l.getD m false)) := by
  simp only [World.cell?, h]
  rw [List.getElem?_toArray, List.getElem?_map, List.getElem?_eq_getElem hm, List.getD_eq_getElem?_getD, List.getElem?_eq_getElem hm]
  rfl
theorem withL_take {g : List Int} {n p : Nat} {l : List Int} (hp : p < n) : (((withL g n l).take p ++ List.replicate (n - p) false).set p (l.any fun q => g.getD q.toNat 0 == g.getD p 0)) = (withL g n l).take (p + 1) ++ List.replicate (n - (p + 1)) false := by
  have hl := withL_len g n l
  have hpl : p < (withL g n l).length := by rw [hl]; exact hp
  have hb := withL_get (g := g) (l := l) hp
  rw [List.getD_eq_getElem?_getD, List.getElem?_eq_getElem hpl] at hb
  rw [List.set_append_right _ _ (by rw [List.length_take, hl]; omega), List.length_take, hl, Nat.min_eq_left (Nat.le_of_lt hp), Nat.sub_self, List.take_succ_eq_append_getElem hpl, show n - p = (n - (p + 1)) + 1 by omega, List.replicate_succ, List.set_cons_zero, List.append_assoc]
  rw [← hb]
  rfl
set_option maxRecDepth 100000 in
set_option maxHeartbeats 2000000 in
theorem with_any (grp l : List Int) (n : Nat) (af ad as' ag : Option Addr) (lf cf ld cd ls cs cg : Nat) (v : Value) (w : World) (hx : RowAt w v l.length 1 (ints l)) (hr : RowAt w (.slice ag n cg) n 1 (ints grp)) (hl : grp.length = n) (hq : ∀ q ∈ l, 0 ≤ q ∧ q < n) (hn : n ≤ 1000) (hll : l.length ≤ 9000000000000000000) :
    Calls Try.prog 47 #[.agg #[.int .i64 n, .slice af lf cf, .slice ad ld cd, .slice as' ls cs, .slice ag n cg, .slice none 0 0, .slice none 0 0, .slice none 0 0], v] w fun e w' => ∃ T, e = .returned (.slice (some ⟨T, 0, none⟩) n n) ∧ w'.ownsRow w.heap.size 4 1 (.slice (some ⟨T, 0, none⟩) n n) n ((withL grp n l).map Value.bool) ∧ Below w.heap.size w w' := by
  obtain ⟨i4, hi4, h40, h41, h42⟩ := info_parts Try.info4
  have HX := hide' hx
  have HR := hide' hr
  have HQ := hide' hq
  have HL := hide' hl
  obtain ⟨al, cl, rfl⟩ := rowAt_slice hx
  clear hx hr hq hl
  go_enter Try.func47, Try.ntmps47
  go_upto_region 1 with fail
  have HW1 : Hid ((w.alloc (.cells #[.int .i64 n, .slice af lf cf, .slice ad ld cd, .slice as' ls cs, .slice ag n cg, .slice none 0 0, .slice none 0 0, .slice none 0 0] 50)).heap[w.heap.size]? = some (.cells #[.int .i64 n, .slice af lf cf, .slice ad ld cd, .slice as' ls cs, .slice ag n cg, .slice none 0 0, .slice none 0 0, .slice none 0 0] 50 (0, 0))) := alloc_new _ _
  have HB1 := hide' (below_al w (.cells #[.int .i64 n, .slice af lf cf, .slice ad ld cd, .slice as' ls cs, .slice ag n cg, .slice none 0 0, .slice none 0 0, .slice none 0 0] 50))
  obtain ⟨B, hB⟩ : ∃ B, B = w.heap.size := ⟨_, rfl⟩
  obtain ⟨w1, hw1⟩ : ∃ x, x = w.alloc (.cells #[.int .i64 n, .slice af lf cf, .slice ad ld cd, .slice as' ls cs, .slice ag n cg, .slice none 0 0, .slice none 0 0, .slice none 0 0] 50) := ⟨_, rfl⟩
  rw [← hw1] at HW1 HB1 ⊢
  rw [← hB] at HW1
  rw [show (Value.pointer (some { block := w.heap.size, off := 0 })) = Value.pointer (some { block := B, off := 0 }) by rw [hB]]
  clear hB hw1
  have b0 : w1.cell? ⟨B, 0, none⟩ = some (.int .i64 n) := by simp [World.cell?, HW1.out]
  have b4 : w1.cell? ⟨B, 4, none⟩ = some (.slice ag n cg) := by simp [World.cell?, HW1.out]
  go_wp2_with (at_make; refine wpList_make_full _ rfl _ _ 32 rfl w1.heap.size 4 i4 (.bool false) 1 Try.underlying32 hi4 h40 h41 .i64 .i64 _ _ n rfl rfl rfl rfl (by rw [h42]; omega) (by unfold maxLen; omega) (Nat.le_refl _) ?_; intro w2 hown hgr; refine Still.go ?_)
  unfold Still
  have hb2 : Below w1.heap.size w1 w2 := (Below.refl _ w1).grown hgr (Nat.le_refl _) (fun k e => by cases e)
  have HST0 : Hid (TSt w w2 B w1.heap.size #[.int .i64 n, .slice af lf cf, .slice ad ld cd, .slice as' ls cs, .slice ag n cg, .slice none 0 0, .slice none 0 0, .slice none 0 0] (List.replicate n false)) := by
    have h1 := row_cells hown
    rw [made_bool] at h1
    exact ⟨(hb2.block B (Array.getElem?_eq_some_iff.1 HW1.out).1).trans HW1.out, by rw [List.map_replicate]; exact h1, HB1.out.size, HB1.out.trans (hb2.mono HB1.out.size)⟩
  obtain ⟨T, hT⟩ : ∃ T, T = w1.heap.size := ⟨_, rfl⟩
  rw [← hT] at HST0 ⊢
  clear hown hgr hb2 hT HW1 HB1 b0 b4
  have b4 : w2.cell? ⟨B, 4, none⟩ = some (.slice ag n cg) := by simp [World.cell?, HST0.out.hB]
  go_wp2_with fail
  clear b4
  go_loopw [15] (fun i wr => ∃ (p : Nat), i = .int .i64 p ∧ p ≤ n ∧ Hid (TSt w wr B T #[.int .i64 n, .slice af lf cf, .slice ad ld cd, .slice as' ls cs, .slice ag n cg, .slice none 0 0, .slice none 0 0, .slice none 0 0] ((withL grp n l).take p ++ List.replicate (n - p) false))) (fun i _ => n - (intOf i).toNat)
  case atStart => exact ⟨0, rfl, Nat.zero_le _, HST0⟩
  case round =>
    clear HST0
    obtain ⟨p, rfl, hp, HST⟩ := hrel
    by_cases hlt : p < n
    · obtain ⟨bt, ot, ct, ex, hc⟩ := ints_cell2 HR.out p (by rw [HL.out]; exact hlt)
      cases ex
      have c0 := up_cell HST.out.bel hc
      have HSET := hide' (withL_take (g := grp) (l := l) hlt)
      have HC : Hid (Calls Try.prog 58 #[.slice al l.length cl, .func (.func 59) #[] #[.pointer (some ⟨B, 0, none⟩), .pointer (some ⟨wr.heap.size, 0, none⟩)]] (wr.alloc (.cells #[.int .i64 (grp.getD p 0)] 3)) fun e w'' => e = .returned (.bool (l.any fun q => grp.getD q.toNat 0 == grp.getD p 0)) ∧ Below (wr.alloc (.cells #[.int .i64 (grp.getD p 0)] 3)).heap.size (wr.alloc (.cells #[.int .i64 (grp.getD p 0)] 3)) w'') := by
        have hS := HST.out.more (below_al _ (.cells #[.int .i64 (grp.getD p 0)] 3))
        exact containsInt_any grp l _ B wr.heap.size n _ _ _ _ (HX.out.below hS.bel (Nat.le_refl _)) ((cells_at hS.hB 4).trans rfl) (HR.out.below hS.bel (Nat.le_refl _)) ((cells_at (alloc_new _ _) 0).trans rfl) HL.out HQ.out hn hll
      obtain ⟨x, hx⟩ : ∃ x, x = grp.getD p 0 := ⟨_, rfl⟩
      rw [← hx] at c0 HC HSET
      obtain ⟨bb, hbb⟩ : ∃ b, b = l.any fun q => grp.getD q.toNat 0 == x := ⟨_, rfl⟩
      rw [← hbb] at HC HSET
      clear hc hx hbb
      go_wp2_with fail
      refine HC.out.mono ?_
      rintro e w3 ⟨rfl, hb3⟩
      have HST3 := hide' ((HST.out.more (below_al _ _)).more hb3)
      have hlen : p < ((withL grp n l).take p ++ List.replicate (n - p) false).length := by rw [List.length_append, List.length_take, withL_len, List.length_replicate]; omega
      have g0 := bools_cell HST3.out.hT hlen
      have g1 : w3.frozen? ⟨T, p, none⟩ = false := frozen_no HST3.out.hT _
      have HNX := hide' (HST3.out.set (m := p) bb)
      rw [HSET.out] at HNX
      clear hb3 HC HST HST3 hlen c0
      go_wp2
      go_roundw
      case rel => exact ⟨p + 1, by go_num, by omega, HNX⟩
      case measure => simp [intOf]; omega
    · have hpe : p = n := by omega
      subst hpe
      have HOW : Hid (wr.ownsRow w.heap.size 4 1 (.slice (some ⟨T, 0, none⟩) p p) p ((withL grp p l).map Value.bool)) := by
        have h1 := HST.out.hT
        rw [Nat.sub_self, List.replicate_zero, List.append_nil, List.take_of_length_le (by rw [withL_len]; exact Nat.le_refl _)] at h1
        exact bools_own h1 HST.out.sT (withL_len _ _ _) hn
      have HB := hide' HST.out.bel
      clear HST
      go_wp2
      go_ret
      exact ⟨T, rfl, HOW.out, HB.out⟩
end Go.Proofs.Ytcnoipcpifackah
