/- What a station answers; rows of messages that are held against each other. -/
import Derived.Test.YtjhmendiefojoamYc
import Derived.Test.YtjhmendiefojoamS12
namespace Go.Proofs.Ytjhmendiefojoam
open Go.RowKit Go.Shelf

def replyL (m : MsM) (r : Int) : List MsM := if r = 0 then [] else [⟨r, m.no, m.pt, m.wt⟩]
def msgs (l : List MsM) : List Value := l.flatMap fun m => m.cells.toList
set_option maxRecDepth 100000 in
theorem does_1 (K : Nat) (w : World) : Calls Try.prog 54 #[.pointer (some ⟨K, 0, none⟩), .int .i64 1] w fun e w' => e = .returned (.func (.func 56) #[.pointer (some ⟨K, 0, none⟩)] #[]) ∧ w' = w := by
  go_enter Try.func54, Try.ntmps54
  go_wp2
  go_ret
  exact ⟨rfl, rfl⟩
set_option maxRecDepth 100000 in
theorem does_3 (K : Nat) (w : World) : Calls Try.prog 54 #[.pointer (some ⟨K, 0, none⟩), .int .i64 3] w fun e w' => e = .returned (.func (.func 57) #[.pointer (some ⟨K, 0, none⟩)] #[]) ∧ w' = w := by
  go_enter Try.func54, Try.ntmps54
  go_wp2
  go_ret
  exact ⟨rfl, rfl⟩
set_option maxRecDepth 100000 in
theorem does_no (K : Nat) (k : Int) (w : World) (h1 : k ≠ 1) (h3 : k ≠ 3) : Calls Try.prog 54 #[.pointer (some ⟨K, 0, none⟩), .int .i64 k] w fun e w' => e = .returned .nilFunc ∧ w' = w := by
  go_enter Try.func54, Try.ntmps54
  go_wp2
  go_ret
  exact ⟨rfl, rfl⟩
set_option maxRecDepth 100000 in
set_option maxHeartbeats 2000000 in
theorem answers_any (m : MsM) (r : Int) (w : World) : Calls Try.prog 55 #[.agg m.cells, .int .i64 r] w fun e w' => ∃ v, e = .returned v ∧ w'.ownsRow w.heap.size 39 4 v (replyL m r).length (msgs (replyL m r)) ∧ Below w.heap.size w w' := by
  obtain ⟨kind, no, pt, wt⟩ := m
  unfold MsM.cells replyL
  simp only
  by_cases h : r = 0
  · rw [if_pos h]
    have HH := hide' h
    clear h
    obtain rfl := HH.out
    go_enter Try.func55, Try.ntmps55
    go_wp2
    go_ret
    exact ⟨_, rfl, World.ownsRow_nil _ _ _ _, below_al w _⟩
  · rw [if_neg h]
    go_enter Try.func55, Try.ntmps55
    go_upto_region 1 with fail
    have hqY := alloc_new w (.cells #[.int .i64 kind, .int .i64 no, .int .i64 pt, .bool wt] 39)
    have hb1 := below_al w (.cells #[.int .i64 kind, .int .i64 no, .int .i64 pt, .bool wt] 39)
    obtain ⟨w1, hw1⟩ : ∃ x, x = (w.alloc (.cells #[.int .i64 kind, .int .i64 no, .int .i64 pt, .bool wt] 39)) := ⟨_, rfl⟩
    rw [← hw1] at hqY hb1 ⊢
    obtain ⟨Y, hnY⟩ : ∃ x, x = w.heap.size := ⟨_, rfl⟩
    have HNE : Hid (w.heap.size ≤ Y) := by show _ ≤ _; omega
    rw [← hnY] at hqY
    rw [show (Value.pointer (some { block := w.heap.size, off := 0 })) = Value.pointer (some { block := Y, off := 0 }) by rw [hnY]]
    have HQY := hide' hqY
    have HB1 := hide' hb1
    clear hqY hb1 hw1 hnY
    obtain ⟨c0, c1, c2, c3⟩ := cellsP4 HQY.out
    obtain ⟨f0, f1, f2, f3⟩ := frozenP4 HQY.out
    go_upto_region 4 with fail
    have HY2 : Hid ((w1.setCell ⟨Y, 0, none⟩ (.int .i64 r)).heap[Y]? = some (.cells #[.int .i64 r, .int .i64 no, .int .i64 pt, .bool wt] 39 (0, 0))) := (set_any HQY.out 0 _).trans (by simp only [List.setIfInBounds_toArray, List.set_cons_zero])
    have HB2 : Hid (Below w.heap.size w (w1.setCell ⟨Y, 0, none⟩ (.int .i64 r))) := HB1.out.setCell (p := ⟨Y, 0, none⟩) HNE.out _
    obtain ⟨w2, hw2⟩ : ∃ x, x = w1.setCell ⟨Y, 0, none⟩ (.int .i64 r) := ⟨_, rfl⟩
    rw [← hw2] at HY2 HB2 ⊢
    clear hw2 HQY HB1
    clear c0 c1 c2 c3 f0 f1 f2 f3
    obtain ⟨c0, c1, c2, c3⟩ := cellsP4 HY2.out
    have HF : Hid ((w2.alloc (.cells #[.int .i64 r, .int .i64 no, .int .i64 pt, .bool wt] 39)).ownsRow w.heap.size 39 4 (.slice (some ⟨w2.heap.size, 0, none⟩) 1 1) 1 (msgs [⟨r, no, pt, wt⟩])) := ⟨rfl, .inr ⟨w2.heap.size, _, _, rfl, HB2.out.size, alloc_new w2 _, Nat.le_refl _, by unfold maxLen; omega, rfl, rfl⟩⟩
    have HB3 := hide' (HB2.out.alloc HB2.out.size (.cells #[.int .i64 r, .int .i64 no, .int .i64 pt, .bool wt] 39))
    clear HY2 HB2
    go_wp2
    go_ret
    exact ⟨_, rfl, HF.out, HB3.out⟩
set_option maxRecDepth 100000 in
set_option maxHeartbeats 2000000 in
theorem sameMsgs_same (l : List MsM) (u v : Value) (w : World) (hu : RowAt w u l.length 4 (msgs l)) (hv : RowAt w v l.length 4 (msgs l)) (hn : l.length ≤ 1000) :
    Calls Try.prog 14 #[u, v] w fun e w' => e = .returned (.bool true) ∧ Below w.heap.size w w' := by
  have HU := hide' hu
  have HV := hide' hv
  obtain ⟨au, cu, rfl⟩ := rowAt_slice hu
  obtain ⟨av, cv, rfl⟩ := rowAt_slice hv
  clear hu hv
  go_enter Try.func14, Try.ntmps14
  go_wp2_with fail
  go_loopw [5] (fun i wr => ∃ (k : Nat), i = .int .i64 k ∧ k ≤ l.length ∧ Hid (Below w.heap.size w wr)) (fun i _ => l.length - (intOf i).toNat)
  case atStart => exact ⟨0, rfl, Nat.zero_le _, Below.refl _ w⟩
  case round =>
    obtain ⟨k, rfl, hk, HBE⟩ := hrel
    by_cases hlt : k < l.length
    · obtain ⟨b1, o1, c1, ex1, hc1⟩ := row_elem (f := fun m : MsM => m.cells.toList) (fun _ => rfl) HU.out k hlt (by decide)
      cases ex1
      obtain ⟨b2, o2, c2, ex2, hc2⟩ := row_elem (f := fun m : MsM => m.cells.toList) (fun _ => rfl) HV.out k hlt (by decide)
      cases ex2
      obtain ⟨m, hm⟩ : ∃ m, m = l[k] := ⟨_, rfl⟩
      rw [← hm] at hc1 hc2
      obtain ⟨kind, no, pt, wt⟩ := m
      have e0 : wr.cell? ⟨b1, o1 + k * 4, none⟩ = some (.int .i64 kind) := up_cell HBE.out (hc1.2 0 _ rfl)
      have e1 : wr.cell? ⟨b1, o1 + k * 4 + 1, none⟩ = some (.int .i64 no) := up_cell HBE.out (hc1.2 1 _ rfl)
      have e2 : wr.cell? ⟨b1, o1 + k * 4 + 2, none⟩ = some (.int .i64 pt) := up_cell HBE.out (hc1.2 2 _ rfl)
      have e3 : wr.cell? ⟨b1, o1 + k * 4 + 3, none⟩ = some (.bool wt) := up_cell HBE.out (hc1.2 3 _ rfl)
      have g0 : wr.cell? ⟨b2, o2 + k * 4, none⟩ = some (.int .i64 kind) := up_cell HBE.out (hc2.2 0 _ rfl)
      have g1 : wr.cell? ⟨b2, o2 + k * 4 + 1, none⟩ = some (.int .i64 no) := up_cell HBE.out (hc2.2 1 _ rfl)
      have g2 : wr.cell? ⟨b2, o2 + k * 4 + 2, none⟩ = some (.int .i64 pt) := up_cell HBE.out (hc2.2 2 _ rfl)
      have g3 : wr.cell? ⟨b2, o2 + k * 4 + 3, none⟩ = some (.bool wt) := up_cell HBE.out (hc2.2 3 _ rfl)
      have HBD : Hid (∀ m, Below w.heap.size w (wr.drewN m)) := fun m => below_drewN HBE.out m
      clear hc1 hc2 hm HBE
      go_wp2_with fail
      go_quiet (fail)
      go_wp2
      go_roundw
      case rel => exact ⟨k + 1, by go_num, by omega, HBD.out _⟩
      case measure => simp [intOf]; omega
    · go_wp2
      go_ret
      exact ⟨rfl, HBE.out⟩
end Go.Proofs.Ytjhmendiefojoam
