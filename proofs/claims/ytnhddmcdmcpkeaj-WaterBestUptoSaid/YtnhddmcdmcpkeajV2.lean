/- after, choices. -/
import Derived.Test.YtnhddmcdmcpkeajV1
namespace Go.Proofs.Ytnhddmcdmcpkeaj
open Go.RowKit Go.Shelf

def afterA (ls : List LakeM) (L h : Nat) (a0 a1 r0 r1 : Int) : Array Value := #[.int .i64 ((h : Int) + 1), .int .i64 (next2 ls L ⟨a0, a1⟩ ⟨r0, r1⟩).l0, .int .i64 (next2 ls L ⟨a0, a1⟩ ⟨r0, r1⟩).l1, .int .i64 (next2 ls L ⟨a0, a1⟩ ⟨r0, r1⟩).u0, .int .i64 (next2 ls L ⟨a0, a1⟩ ⟨r0, r1⟩).u1]
theorem drain_next (ls : List LakeM) (L : Nat) (a0 a1 r0 r1 : Int) : drainS ls a0 a1 r0 r1 L L = (next2 ls L ⟨a0, a1⟩ ⟨r0, r1⟩).cells := rfl
theorem set_fiveM {w : World} {A t : Nat} {c0 c1 c2 c3 c4 : Value} (h : w.heap[A]? = some (.cells #[c0, c1, c2, c3, c4] t (0, 0))) (x0 x1 x2 x3 x4 : Value) : (((((w.setCell ⟨A, 0, none⟩ x0).setCell ⟨A, 1, none⟩ x1).setCell ⟨A, 2, none⟩ x2).setCell ⟨A, 3, none⟩ x3).setCell ⟨A, 4, none⟩ x4).heap[A]? = some (.cells #[x0, x1, x2, x3, x4] t (0, 0)) := set_five h x0 x1 x2 x3 x4
set_option maxRecDepth 100000 in
set_option maxHeartbeats 4000000 in
theorem after_any (ls : List LakeM) (hok : ∀ k ∈ ls, LakeOk k) (al : Option Addr) (L cl : Nat) (vi vp ve vm : Value) (h : Nat) (hh : h ≤ 100) (x0 x1 x2 x3 a0 a1 r0 r1 : Int) (w : World) (hx : RowAt w (.slice al L cl) ls.length 5 (ls.flatMap LakeM.cells)) (hl : ls.length = L) (hL : L ≤ 2) (ha : -1000 ≤ a0 ∧ a0 ≤ 1000 ∧ -1000 ≤ a1 ∧ a1 ≤ 1000) (hr : -1000 ≤ r0 ∧ r0 ≤ 1000 ∧ -1000 ≤ r1 ∧ r1 ≤ 1000) :
    Calls Try.prog 69 #[.agg #[.slice al L cl, vi, vp, ve, vm], .agg #[.int .i64 h, .int .i64 x0, .int .i64 x1, .int .i64 x2, .int .i64 x3], .agg #[.int .i64 a0, .int .i64 a1], .agg #[.int .i64 r0, .int .i64 r1]] w fun e w' => e = .returned (.agg (afterA ls L h a0 a1 r0 r1)) ∧ Below w.heap.size w w' := by
  have HD : Hid (∀ W, Below w.heap.size w W → Calls Try.prog 65 #[.agg #[.slice al L cl, vi], .agg #[.int .i64 a0, .int .i64 a1], .agg #[.int .i64 r0, .int .i64 r1]] W fun e w' => e = .returned (.tuple #[.agg (drainS ls a0 a1 r0 r1 L L), .agg (drainV ls a0 a1 r0 r1 L)]) ∧ Below W.heap.size W w') := fun W hb => drain_any ls hok al L cl vi a0 a1 r0 r1 W (hx.below hb (Nat.le_refl _)) hl hL ha hr
  obtain ⟨d0, d1, d2, d3, hd⟩ : ∃ d0 d1 d2 d3 : Int, drainS ls a0 a1 r0 r1 L L = #[.int .i64 d0, .int .i64 d1, .int .i64 d2, .int .i64 d3] := ⟨_, _, _, _, rfl⟩
  obtain ⟨s0, s1, hs⟩ : ∃ s0 s1 : Int, drainV ls a0 a1 r0 r1 L = #[.int .i64 s0, .int .i64 s1] := ⟨_, _, rfl⟩
  have HA : Hid (afterA ls L h a0 a1 r0 r1 = #[.int .i64 ((h : Int) + 1), .int .i64 d0, .int .i64 d1, .int .i64 d2, .int .i64 d3]) := by
    rw [drain_next] at hd
    unfold Stnd.cells at hd
    simp only [Array.mk.injEq, List.cons.injEq, Value.int.injEq, true_and, and_true] at hd
    unfold afterA
    rw [hd.1, hd.2.1, hd.2.2.1, hd.2.2.2]
    exact rfl
  rw [hd, hs] at HD
  clear hx hl hd hs ha hr hok
  go_enter Try.func69, Try.ntmps69
  go_upto_region 1 with fail
  have hqP := (alloc_old ((((w.alloc (.cells #[.slice al L cl, vi, vp, ve, vm] 88)).alloc (.cells #[.int .i64 h, .int .i64 x0, .int .i64 x1, .int .i64 x2, .int .i64 x3] 129)).alloc (.cells #[.int .i64 a0, .int .i64 a1] 117)).alloc (.cells #[.int .i64 r0, .int .i64 r1] 117)) (.cells #[.int .i64 0, .int .i64 0, .int .i64 0, .int .i64 0, .int .i64 0] 129) (lt_heap ((alloc_old (((w.alloc (.cells #[.slice al L cl, vi, vp, ve, vm] 88)).alloc (.cells #[.int .i64 h, .int .i64 x0, .int .i64 x1, .int .i64 x2, .int .i64 x3] 129)).alloc (.cells #[.int .i64 a0, .int .i64 a1] 117)) (.cells #[.int .i64 r0, .int .i64 r1] 117) (lt_heap ((alloc_old ((w.alloc (.cells #[.slice al L cl, vi, vp, ve, vm] 88)).alloc (.cells #[.int .i64 h, .int .i64 x0, .int .i64 x1, .int .i64 x2, .int .i64 x3] 129)) (.cells #[.int .i64 a0, .int .i64 a1] 117) (lt_heap ((alloc_old (w.alloc (.cells #[.slice al L cl, vi, vp, ve, vm] 88)) (.cells #[.int .i64 h, .int .i64 x0, .int .i64 x1, .int .i64 x2, .int .i64 x3] 129) (lt_heap (alloc_new w (.cells #[.slice al L cl, vi, vp, ve, vm] 88)))).trans (alloc_new w (.cells #[.slice al L cl, vi, vp, ve, vm] 88))))).trans ((alloc_old (w.alloc (.cells #[.slice al L cl, vi, vp, ve, vm] 88)) (.cells #[.int .i64 h, .int .i64 x0, .int .i64 x1, .int .i64 x2, .int .i64 x3] 129) (lt_heap (alloc_new w (.cells #[.slice al L cl, vi, vp, ve, vm] 88)))).trans (alloc_new w (.cells #[.slice al L cl, vi, vp, ve, vm] 88)))))).trans ((alloc_old ((w.alloc (.cells #[.slice al L cl, vi, vp, ve, vm] 88)).alloc (.cells #[.int .i64 h, .int .i64 x0, .int .i64 x1, .int .i64 x2, .int .i64 x3] 129)) (.cells #[.int .i64 a0, .int .i64 a1] 117) (lt_heap ((alloc_old (w.alloc (.cells #[.slice al L cl, vi, vp, ve, vm] 88)) (.cells #[.int .i64 h, .int .i64 x0, .int .i64 x1, .int .i64 x2, .int .i64 x3] 129) (lt_heap (alloc_new w (.cells #[.slice al L cl, vi, vp, ve, vm] 88)))).trans (alloc_new w (.cells #[.slice al L cl, vi, vp, ve, vm] 88))))).trans ((alloc_old (w.alloc (.cells #[.slice al L cl, vi, vp, ve, vm] 88)) (.cells #[.int .i64 h, .int .i64 x0, .int .i64 x1, .int .i64 x2, .int .i64 x3] 129) (lt_heap (alloc_new w (.cells #[.slice al L cl, vi, vp, ve, vm] 88)))).trans (alloc_new w (.cells #[.slice al L cl, vi, vp, ve, vm] 88))))))).trans ((alloc_old (((w.alloc (.cells #[.slice al L cl, vi, vp, ve, vm] 88)).alloc (.cells #[.int .i64 h, .int .i64 x0, .int .i64 x1, .int .i64 x2, .int .i64 x3] 129)).alloc (.cells #[.int .i64 a0, .int .i64 a1] 117)) (.cells #[.int .i64 r0, .int .i64 r1] 117) (lt_heap ((alloc_old ((w.alloc (.cells #[.slice al L cl, vi, vp, ve, vm] 88)).alloc (.cells #[.int .i64 h, .int .i64 x0, .int .i64 x1, .int .i64 x2, .int .i64 x3] 129)) (.cells #[.int .i64 a0, .int .i64 a1] 117) (lt_heap ((alloc_old (w.alloc (.cells #[.slice al L cl, vi, vp, ve, vm] 88)) (.cells #[.int .i64 h, .int .i64 x0, .int .i64 x1, .int .i64 x2, .int .i64 x3] 129) (lt_heap (alloc_new w (.cells #[.slice al L cl, vi, vp, ve, vm] 88)))).trans (alloc_new w (.cells #[.slice al L cl, vi, vp, ve, vm] 88))))).trans ((alloc_old (w.alloc (.cells #[.slice al L cl, vi, vp, ve, vm] 88)) (.cells #[.int .i64 h, .int .i64 x0, .int .i64 x1, .int .i64 x2, .int .i64 x3] 129) (lt_heap (alloc_new w (.cells #[.slice al L cl, vi, vp, ve, vm] 88)))).trans (alloc_new w (.cells #[.slice al L cl, vi, vp, ve, vm] 88)))))).trans ((alloc_old ((w.alloc (.cells #[.slice al L cl, vi, vp, ve, vm] 88)).alloc (.cells #[.int .i64 h, .int .i64 x0, .int .i64 x1, .int .i64 x2, .int .i64 x3] 129)) (.cells #[.int .i64 a0, .int .i64 a1] 117) (lt_heap ((alloc_old (w.alloc (.cells #[.slice al L cl, vi, vp, ve, vm] 88)) (.cells #[.int .i64 h, .int .i64 x0, .int .i64 x1, .int .i64 x2, .int .i64 x3] 129) (lt_heap (alloc_new w (.cells #[.slice al L cl, vi, vp, ve, vm] 88)))).trans (alloc_new w (.cells #[.slice al L cl, vi, vp, ve, vm] 88))))).trans ((alloc_old (w.alloc (.cells #[.slice al L cl, vi, vp, ve, vm] 88)) (.cells #[.int .i64 h, .int .i64 x0, .int .i64 x1, .int .i64 x2, .int .i64 x3] 129) (lt_heap (alloc_new w (.cells #[.slice al L cl, vi, vp, ve, vm] 88)))).trans (alloc_new w (.cells #[.slice al L cl, vi, vp, ve, vm] 88)))))
  have hqQ := (alloc_old ((((w.alloc (.cells #[.slice al L cl, vi, vp, ve, vm] 88)).alloc (.cells #[.int .i64 h, .int .i64 x0, .int .i64 x1, .int .i64 x2, .int .i64 x3] 129)).alloc (.cells #[.int .i64 a0, .int .i64 a1] 117)).alloc (.cells #[.int .i64 r0, .int .i64 r1] 117)) (.cells #[.int .i64 0, .int .i64 0, .int .i64 0, .int .i64 0, .int .i64 0] 129) (lt_heap ((alloc_old (((w.alloc (.cells #[.slice al L cl, vi, vp, ve, vm] 88)).alloc (.cells #[.int .i64 h, .int .i64 x0, .int .i64 x1, .int .i64 x2, .int .i64 x3] 129)).alloc (.cells #[.int .i64 a0, .int .i64 a1] 117)) (.cells #[.int .i64 r0, .int .i64 r1] 117) (lt_heap ((alloc_old ((w.alloc (.cells #[.slice al L cl, vi, vp, ve, vm] 88)).alloc (.cells #[.int .i64 h, .int .i64 x0, .int .i64 x1, .int .i64 x2, .int .i64 x3] 129)) (.cells #[.int .i64 a0, .int .i64 a1] 117) (lt_heap (alloc_new (w.alloc (.cells #[.slice al L cl, vi, vp, ve, vm] 88)) (.cells #[.int .i64 h, .int .i64 x0, .int .i64 x1, .int .i64 x2, .int .i64 x3] 129)))).trans (alloc_new (w.alloc (.cells #[.slice al L cl, vi, vp, ve, vm] 88)) (.cells #[.int .i64 h, .int .i64 x0, .int .i64 x1, .int .i64 x2, .int .i64 x3] 129))))).trans ((alloc_old ((w.alloc (.cells #[.slice al L cl, vi, vp, ve, vm] 88)).alloc (.cells #[.int .i64 h, .int .i64 x0, .int .i64 x1, .int .i64 x2, .int .i64 x3] 129)) (.cells #[.int .i64 a0, .int .i64 a1] 117) (lt_heap (alloc_new (w.alloc (.cells #[.slice al L cl, vi, vp, ve, vm] 88)) (.cells #[.int .i64 h, .int .i64 x0, .int .i64 x1, .int .i64 x2, .int .i64 x3] 129)))).trans (alloc_new (w.alloc (.cells #[.slice al L cl, vi, vp, ve, vm] 88)) (.cells #[.int .i64 h, .int .i64 x0, .int .i64 x1, .int .i64 x2, .int .i64 x3] 129)))))).trans ((alloc_old (((w.alloc (.cells #[.slice al L cl, vi, vp, ve, vm] 88)).alloc (.cells #[.int .i64 h, .int .i64 x0, .int .i64 x1, .int .i64 x2, .int .i64 x3] 129)).alloc (.cells #[.int .i64 a0, .int .i64 a1] 117)) (.cells #[.int .i64 r0, .int .i64 r1] 117) (lt_heap ((alloc_old ((w.alloc (.cells #[.slice al L cl, vi, vp, ve, vm] 88)).alloc (.cells #[.int .i64 h, .int .i64 x0, .int .i64 x1, .int .i64 x2, .int .i64 x3] 129)) (.cells #[.int .i64 a0, .int .i64 a1] 117) (lt_heap (alloc_new (w.alloc (.cells #[.slice al L cl, vi, vp, ve, vm] 88)) (.cells #[.int .i64 h, .int .i64 x0, .int .i64 x1, .int .i64 x2, .int .i64 x3] 129)))).trans (alloc_new (w.alloc (.cells #[.slice al L cl, vi, vp, ve, vm] 88)) (.cells #[.int .i64 h, .int .i64 x0, .int .i64 x1, .int .i64 x2, .int .i64 x3] 129))))).trans ((alloc_old ((w.alloc (.cells #[.slice al L cl, vi, vp, ve, vm] 88)).alloc (.cells #[.int .i64 h, .int .i64 x0, .int .i64 x1, .int .i64 x2, .int .i64 x3] 129)) (.cells #[.int .i64 a0, .int .i64 a1] 117) (lt_heap (alloc_new (w.alloc (.cells #[.slice al L cl, vi, vp, ve, vm] 88)) (.cells #[.int .i64 h, .int .i64 x0, .int .i64 x1, .int .i64 x2, .int .i64 x3] 129)))).trans (alloc_new (w.alloc (.cells #[.slice al L cl, vi, vp, ve, vm] 88)) (.cells #[.int .i64 h, .int .i64 x0, .int .i64 x1, .int .i64 x2, .int .i64 x3] 129))))
  have hqF := (alloc_old ((((w.alloc (.cells #[.slice al L cl, vi, vp, ve, vm] 88)).alloc (.cells #[.int .i64 h, .int .i64 x0, .int .i64 x1, .int .i64 x2, .int .i64 x3] 129)).alloc (.cells #[.int .i64 a0, .int .i64 a1] 117)).alloc (.cells #[.int .i64 r0, .int .i64 r1] 117)) (.cells #[.int .i64 0, .int .i64 0, .int .i64 0, .int .i64 0, .int .i64 0] 129) (lt_heap ((alloc_old (((w.alloc (.cells #[.slice al L cl, vi, vp, ve, vm] 88)).alloc (.cells #[.int .i64 h, .int .i64 x0, .int .i64 x1, .int .i64 x2, .int .i64 x3] 129)).alloc (.cells #[.int .i64 a0, .int .i64 a1] 117)) (.cells #[.int .i64 r0, .int .i64 r1] 117) (lt_heap (alloc_new ((w.alloc (.cells #[.slice al L cl, vi, vp, ve, vm] 88)).alloc (.cells #[.int .i64 h, .int .i64 x0, .int .i64 x1, .int .i64 x2, .int .i64 x3] 129)) (.cells #[.int .i64 a0, .int .i64 a1] 117)))).trans (alloc_new ((w.alloc (.cells #[.slice al L cl, vi, vp, ve, vm] 88)).alloc (.cells #[.int .i64 h, .int .i64 x0, .int .i64 x1, .int .i64 x2, .int .i64 x3] 129)) (.cells #[.int .i64 a0, .int .i64 a1] 117))))).trans ((alloc_old (((w.alloc (.cells #[.slice al L cl, vi, vp, ve, vm] 88)).alloc (.cells #[.int .i64 h, .int .i64 x0, .int .i64 x1, .int .i64 x2, .int .i64 x3] 129)).alloc (.cells #[.int .i64 a0, .int .i64 a1] 117)) (.cells #[.int .i64 r0, .int .i64 r1] 117) (lt_heap (alloc_new ((w.alloc (.cells #[.slice al L cl, vi, vp, ve, vm] 88)).alloc (.cells #[.int .i64 h, .int .i64 x0, .int .i64 x1, .int .i64 x2, .int .i64 x3] 129)) (.cells #[.int .i64 a0, .int .i64 a1] 117)))).trans (alloc_new ((w.alloc (.cells #[.slice al L cl, vi, vp, ve, vm] 88)).alloc (.cells #[.int .i64 h, .int .i64 x0, .int .i64 x1, .int .i64 x2, .int .i64 x3] 129)) (.cells #[.int .i64 a0, .int .i64 a1] 117)))
  have hqR := (alloc_old ((((w.alloc (.cells #[.slice al L cl, vi, vp, ve, vm] 88)).alloc (.cells #[.int .i64 h, .int .i64 x0, .int .i64 x1, .int .i64 x2, .int .i64 x3] 129)).alloc (.cells #[.int .i64 a0, .int .i64 a1] 117)).alloc (.cells #[.int .i64 r0, .int .i64 r1] 117)) (.cells #[.int .i64 0, .int .i64 0, .int .i64 0, .int .i64 0, .int .i64 0] 129) (lt_heap (alloc_new (((w.alloc (.cells #[.slice al L cl, vi, vp, ve, vm] 88)).alloc (.cells #[.int .i64 h, .int .i64 x0, .int .i64 x1, .int .i64 x2, .int .i64 x3] 129)).alloc (.cells #[.int .i64 a0, .int .i64 a1] 117)) (.cells #[.int .i64 r0, .int .i64 r1] 117)))).trans (alloc_new (((w.alloc (.cells #[.slice al L cl, vi, vp, ve, vm] 88)).alloc (.cells #[.int .i64 h, .int .i64 x0, .int .i64 x1, .int .i64 x2, .int .i64 x3] 129)).alloc (.cells #[.int .i64 a0, .int .i64 a1] 117)) (.cells #[.int .i64 r0, .int .i64 r1] 117))
  have hqS := alloc_new ((((w.alloc (.cells #[.slice al L cl, vi, vp, ve, vm] 88)).alloc (.cells #[.int .i64 h, .int .i64 x0, .int .i64 x1, .int .i64 x2, .int .i64 x3] 129)).alloc (.cells #[.int .i64 a0, .int .i64 a1] 117)).alloc (.cells #[.int .i64 r0, .int .i64 r1] 117)) (.cells #[.int .i64 0, .int .i64 0, .int .i64 0, .int .i64 0, .int .i64 0] 129)
  have hb1 := ((((below_al w (.cells #[.slice al L cl, vi, vp, ve, vm] 88)).alloc (below_al w (.cells #[.slice al L cl, vi, vp, ve, vm] 88)).size (.cells #[.int .i64 h, .int .i64 x0, .int .i64 x1, .int .i64 x2, .int .i64 x3] 129)).alloc ((below_al w (.cells #[.slice al L cl, vi, vp, ve, vm] 88)).alloc (below_al w (.cells #[.slice al L cl, vi, vp, ve, vm] 88)).size (.cells #[.int .i64 h, .int .i64 x0, .int .i64 x1, .int .i64 x2, .int .i64 x3] 129)).size (.cells #[.int .i64 a0, .int .i64 a1] 117)).alloc (((below_al w (.cells #[.slice al L cl, vi, vp, ve, vm] 88)).alloc (below_al w (.cells #[.slice al L cl, vi, vp, ve, vm] 88)).size (.cells #[.int .i64 h, .int .i64 x0, .int .i64 x1, .int .i64 x2, .int .i64 x3] 129)).alloc ((below_al w (.cells #[.slice al L cl, vi, vp, ve, vm] 88)).alloc (below_al w (.cells #[.slice al L cl, vi, vp, ve, vm] 88)).size (.cells #[.int .i64 h, .int .i64 x0, .int .i64 x1, .int .i64 x2, .int .i64 x3] 129)).size (.cells #[.int .i64 a0, .int .i64 a1] 117)).size (.cells #[.int .i64 r0, .int .i64 r1] 117)).alloc ((((below_al w (.cells #[.slice al L cl, vi, vp, ve, vm] 88)).alloc (below_al w (.cells #[.slice al L cl, vi, vp, ve, vm] 88)).size (.cells #[.int .i64 h, .int .i64 x0, .int .i64 x1, .int .i64 x2, .int .i64 x3] 129)).alloc ((below_al w (.cells #[.slice al L cl, vi, vp, ve, vm] 88)).alloc (below_al w (.cells #[.slice al L cl, vi, vp, ve, vm] 88)).size (.cells #[.int .i64 h, .int .i64 x0, .int .i64 x1, .int .i64 x2, .int .i64 x3] 129)).size (.cells #[.int .i64 a0, .int .i64 a1] 117)).alloc (((below_al w (.cells #[.slice al L cl, vi, vp, ve, vm] 88)).alloc (below_al w (.cells #[.slice al L cl, vi, vp, ve, vm] 88)).size (.cells #[.int .i64 h, .int .i64 x0, .int .i64 x1, .int .i64 x2, .int .i64 x3] 129)).alloc ((below_al w (.cells #[.slice al L cl, vi, vp, ve, vm] 88)).alloc (below_al w (.cells #[.slice al L cl, vi, vp, ve, vm] 88)).size (.cells #[.int .i64 h, .int .i64 x0, .int .i64 x1, .int .i64 x2, .int .i64 x3] 129)).size (.cells #[.int .i64 a0, .int .i64 a1] 117)).size (.cells #[.int .i64 r0, .int .i64 r1] 117)).size (.cells #[.int .i64 0, .int .i64 0, .int .i64 0, .int .i64 0, .int .i64 0] 129)
  rw [show (w.alloc (.cells #[.slice al L cl, vi, vp, ve, vm] 88)).heap.size = w.heap.size + 1 from by simp only [World.size_alloc]] at hqQ
  rw [show ((w.alloc (.cells #[.slice al L cl, vi, vp, ve, vm] 88)).alloc (.cells #[.int .i64 h, .int .i64 x0, .int .i64 x1, .int .i64 x2, .int .i64 x3] 129)).heap.size = w.heap.size + 1 + 1 from by simp only [World.size_alloc]] at hqF
  rw [show (((w.alloc (.cells #[.slice al L cl, vi, vp, ve, vm] 88)).alloc (.cells #[.int .i64 h, .int .i64 x0, .int .i64 x1, .int .i64 x2, .int .i64 x3] 129)).alloc (.cells #[.int .i64 a0, .int .i64 a1] 117)).heap.size = w.heap.size + 1 + 1 + 1 from by simp only [World.size_alloc]] at hqR
  rw [show ((((w.alloc (.cells #[.slice al L cl, vi, vp, ve, vm] 88)).alloc (.cells #[.int .i64 h, .int .i64 x0, .int .i64 x1, .int .i64 x2, .int .i64 x3] 129)).alloc (.cells #[.int .i64 a0, .int .i64 a1] 117)).alloc (.cells #[.int .i64 r0, .int .i64 r1] 117)).heap.size = w.heap.size + 1 + 1 + 1 + 1 from by simp only [World.size_alloc]] at hqS
  obtain ⟨w1, hw1⟩ : ∃ x, x = (((((w.alloc (.cells #[.slice al L cl, vi, vp, ve, vm] 88)).alloc (.cells #[.int .i64 h, .int .i64 x0, .int .i64 x1, .int .i64 x2, .int .i64 x3] 129)).alloc (.cells #[.int .i64 a0, .int .i64 a1] 117)).alloc (.cells #[.int .i64 r0, .int .i64 r1] 117)).alloc (.cells #[.int .i64 0, .int .i64 0, .int .i64 0, .int .i64 0, .int .i64 0] 129)) := ⟨_, rfl⟩
  rw [← hw1] at hqP hqQ hqF hqR hqS hb1 ⊢
  obtain ⟨P, hnP⟩ : ∃ x, x = w.heap.size := ⟨_, rfl⟩
  obtain ⟨Q, hnQ⟩ : ∃ x, x = w.heap.size + 1 := ⟨_, rfl⟩
  obtain ⟨F, hnF⟩ : ∃ x, x = w.heap.size + 1 + 1 := ⟨_, rfl⟩
  obtain ⟨R, hnR⟩ : ∃ x, x = w.heap.size + 1 + 1 + 1 := ⟨_, rfl⟩
  obtain ⟨S, hnS⟩ : ∃ x, x = w.heap.size + 1 + 1 + 1 + 1 := ⟨_, rfl⟩
  have HNE : Hid (w.heap.size ≤ P ∧ w.heap.size ≤ Q ∧ w.heap.size ≤ F ∧ w.heap.size ≤ R ∧ w.heap.size ≤ S ∧ P ≠ Q ∧ P ≠ F ∧ P ≠ R ∧ P ≠ S ∧ Q ≠ F ∧ Q ≠ R ∧ Q ≠ S ∧ F ≠ R ∧ F ≠ S ∧ R ≠ S) := ⟨by omega, by omega, by omega, by omega, by omega, by omega, by omega, by omega, by omega, by omega, by omega, by omega, by omega, by omega, by omega⟩
  rw [← hnP] at hqP
  rw [← hnQ] at hqQ
  rw [← hnF] at hqF
  rw [← hnR] at hqR
  rw [← hnS] at hqS
  rw [show (Value.pointer (some { block := w.heap.size, off := 0 })) = Value.pointer (some { block := P, off := 0 }) by rw [hnP], show (Value.pointer (some { block := w.heap.size + 1, off := 0 })) = Value.pointer (some { block := Q, off := 0 }) by rw [hnQ], show (Value.pointer (some { block := w.heap.size + 1 + 1, off := 0 })) = Value.pointer (some { block := F, off := 0 }) by rw [hnF], show (Value.pointer (some { block := w.heap.size + 1 + 1 + 1, off := 0 })) = Value.pointer (some { block := R, off := 0 }) by rw [hnR], show (Value.pointer (some { block := w.heap.size + 1 + 1 + 1 + 1, off := 0 })) = Value.pointer (some { block := S, off := 0 }) by rw [hnS]]
  have HQP := hide' hqP
  have HQQ := hide' hqQ
  have HQF := hide' hqF
  have HQR := hide' hqR
  have HQS := hide' hqS
  have HB1 := hide' hb1
  clear hqP hqQ hqF hqR hqS hb1 hw1 hnP hnQ hnF hnR hnS
  have p0 : w1.cell? ⟨P, 0, none⟩ = some (.slice al L cl) := (cells_at HQP.out 0).trans rfl
  have p1 : w1.cell? ⟨P, 1, none⟩ = some vi := (cells_at HQP.out 1).trans rfl
  have f0 : w1.cell? ⟨F, 0, none⟩ = some (.int .i64 a0) := (cells_at HQF.out 0).trans rfl
  have f1 : w1.cell? ⟨F, 1, none⟩ = some (.int .i64 a1) := (cells_at HQF.out 1).trans rfl
  have g0 : w1.cell? ⟨R, 0, none⟩ = some (.int .i64 r0) := (cells_at HQR.out 0).trans rfl
  have g1 : w1.cell? ⟨R, 1, none⟩ = some (.int .i64 r1) := (cells_at HQR.out 1).trans rfl
  go_wp2_with fail
  refine (HD.out w1 HB1.out).mono ?_
  rintro e w2 ⟨rfl, hb2⟩
  have HB2 := hide' (HB1.out.trans (hb2.mono HB1.out.size))
  have hq2 : w2.heap[Q]? = some (.cells #[.int .i64 h, .int .i64 x0, .int .i64 x1, .int .i64 x2, .int .i64 x3] 129 (0, 0)) := (hb2.block Q (lt_heap HQQ.out)).trans HQQ.out
  have hs2 : w2.heap[S]? = some (.cells #[.int .i64 0, .int .i64 0, .int .i64 0, .int .i64 0, .int .i64 0] 129 (0, 0)) := (hb2.block S (lt_heap HQS.out)).trans HQS.out
  clear hb2 p0 p1 f0 f1 g0 g1
  go_upto_region 2 with fail
  have HO1 := hide' HNE.out
  have hqD := (alloc_old (w2.alloc (.cells #[.int .i64 d0, .int .i64 d1, .int .i64 d2, .int .i64 d3] 119)) (.cells #[.int .i64 s0, .int .i64 s1] 117) (lt_heap (alloc_new w2 (.cells #[.int .i64 d0, .int .i64 d1, .int .i64 d2, .int .i64 d3] 119)))).trans (alloc_new w2 (.cells #[.int .i64 d0, .int .i64 d1, .int .i64 d2, .int .i64 d3] 119))
  have hqV := alloc_new (w2.alloc (.cells #[.int .i64 d0, .int .i64 d1, .int .i64 d2, .int .i64 d3] 119)) (.cells #[.int .i64 s0, .int .i64 s1] 117)
  have hb1 := (below_al w2 (.cells #[.int .i64 d0, .int .i64 d1, .int .i64 d2, .int .i64 d3] 119)).alloc (below_al w2 (.cells #[.int .i64 d0, .int .i64 d1, .int .i64 d2, .int .i64 d3] 119)).size (.cells #[.int .i64 s0, .int .i64 s1] 117)
  rw [show (w2.alloc (.cells #[.int .i64 d0, .int .i64 d1, .int .i64 d2, .int .i64 d3] 119)).heap.size = w2.heap.size + 1 from by simp only [World.size_alloc]] at hqV
  obtain ⟨w3, hw1⟩ : ∃ x, x = ((w2.alloc (.cells #[.int .i64 d0, .int .i64 d1, .int .i64 d2, .int .i64 d3] 119)).alloc (.cells #[.int .i64 s0, .int .i64 s1] 117)) := ⟨_, rfl⟩
  rw [← hw1] at hqD hqV hb1 ⊢
  obtain ⟨D, hnD⟩ : ∃ x, x = w2.heap.size := ⟨_, rfl⟩
  obtain ⟨V, hnV⟩ : ∃ x, x = w2.heap.size + 1 := ⟨_, rfl⟩
  have HNE : Hid (w2.heap.size ≤ D ∧ w2.heap.size ≤ V ∧ D ≠ V) := ⟨by omega, by omega, by omega⟩
  rw [← hnD] at hqD
  rw [← hnV] at hqV
  rw [show (Value.pointer (some { block := w2.heap.size, off := 0 })) = Value.pointer (some { block := D, off := 0 }) by rw [hnD], show (Value.pointer (some { block := w2.heap.size + 1, off := 0 })) = Value.pointer (some { block := V, off := 0 }) by rw [hnV]]
  have HQD := hide' hqD
  have HQV := hide' hqV
  have HB1 := hide' hb1
  clear hqD hqV hb1 hw1 hnD hnV
  have HB3 := hide' (HB2.out.trans (HB1.out.mono HB2.out.size))
  have hq3 : w3.heap[Q]? = some (.cells #[.int .i64 h, .int .i64 x0, .int .i64 x1, .int .i64 x2, .int .i64 x3] 129 (0, 0)) := (HB1.out.block Q (lt_heap hq2)).trans hq2
  have hs3 : w3.heap[S]? = some (.cells #[.int .i64 0, .int .i64 0, .int .i64 0, .int .i64 0, .int .i64 0] 129 (0, 0)) := (HB1.out.block S (lt_heap hs2)).trans hs2
  have m0 : w3.cell? ⟨Q, 0, none⟩ = some (.int .i64 h) := (cells_at hq3 0).trans rfl
  have e0 : w3.cell? ⟨D, 0, none⟩ = some (.int .i64 d0) := (cells_at HQD.out 0).trans rfl
  have e1 : w3.cell? ⟨D, 1, none⟩ = some (.int .i64 d1) := (cells_at HQD.out 1).trans rfl
  have e2 : w3.cell? ⟨D, 2, none⟩ = some (.int .i64 d2) := (cells_at HQD.out 2).trans rfl
  have e3 : w3.cell? ⟨D, 3, none⟩ = some (.int .i64 d3) := (cells_at HQD.out 3).trans rfl
  have z0 : w3.cell? ⟨S, 0, none⟩ = some (.int .i64 0) := (cells_at hs3 0).trans rfl
  have z1 : w3.cell? ⟨S, 1, none⟩ = some (.int .i64 0) := (cells_at hs3 1).trans rfl
  have z2 : w3.cell? ⟨S, 2, none⟩ = some (.int .i64 0) := (cells_at hs3 2).trans rfl
  have z3 : w3.cell? ⟨S, 3, none⟩ = some (.int .i64 0) := (cells_at hs3 3).trans rfl
  have z4 : w3.cell? ⟨S, 4, none⟩ = some (.int .i64 0) := (cells_at hs3 4).trans rfl
  have t0 := frozen_no hs3 0
  have t1 := frozen_no hs3 1
  have t2 := frozen_no hs3 2
  have t3 := frozen_no hs3 3
  have t4 := frozen_no hs3 4
  have HF := hide' (set_fiveM hs3 (.int .i64 ((h : Int) + 1)) (.int .i64 d0) (.int .i64 d1) (.int .i64 d2) (.int .i64 d3))
  have HSS : Hid (w.heap.size ≤ S) := HO1.out.2.2.2.2.1
  have HBF : Hid (∀ v0 v1 v2 v3 v4, Below w.heap.size w (((((w3.setCell ⟨S, 0, none⟩ v0).setCell ⟨S, 1, none⟩ v1).setCell ⟨S, 2, none⟩ v2).setCell ⟨S, 3, none⟩ v3).setCell ⟨S, 4, none⟩ v4)) := fun v0 v1 v2 v3 v4 => ((((HB3.out.setCell (p := ⟨S, 0, none⟩) HSS.out v0).setCell (p := ⟨S, 1, none⟩) HSS.out v1).setCell (p := ⟨S, 2, none⟩) HSS.out v2).setCell (p := ⟨S, 3, none⟩) HSS.out v3).setCell (p := ⟨S, 4, none⟩) HSS.out v4
  clear hq2 hs2 hq3 hs3
  go_wp2_with fail
  refine bodyPost_ret (results_cell_row rfl _ _ S 129 _ (0, 0) _ rfl HF.out Try.underlying129 rfl (by kernel_rfl)) rfl ?_
  exact ⟨by rw [HA.out], HBF.out _ _ _ _ _⟩
theorem choices_any (m0 m1 : Int) (w : World) : Calls Try.prog 73 #[.agg #[.int .i64 m0, .int .i64 m1]] w fun e w' => e = .returned (.func (.func 77) #[] #[.pointer (some ⟨w.heap.size, 0, none⟩)]) ∧ w' = w.alloc (.cells #[.int .i64 m0, .int .i64 m1] 117) := by
  have hmf : ∀ fn first cap (w : World), (Instr.makeFunc fn first cap).run Try.prog w = .ok (.func fn first cap) w := fun _ _ _ _ => rfl
  go_enter Try.func73, Try.ntmps73
  go_wp2
  go_ret
  exact ⟨rfl, rfl⟩
end Go.Proofs.Ytnhddmcdmcpkeaj
