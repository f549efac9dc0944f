/- The library's Repeat, of a list of one number: so many of it, in new memory. -/
import Derived.Test.YtpejnkngmnabfaiP0
import Derived.Test.YtpejnkngmnabfaiShelfM
import Derived.Laws.CopyOwn
import Derived.OwnWalk
import Derived.Deep.RegionLaw
namespace Go.Proofs.Ytpejnkngmnabfai
open Go.RowKit Go.Shelf

def rep (k n : Nat) (v : Value) : List Value := List.replicate k v ++ List.replicate (n - k) (.int .i64 0)
theorem rep_len {k n : Nat} {v : Value} (h : k ≤ n) : (rep k n v).length = n := by simp [rep]; omega
theorem rep_splice {k m n : Nat} {v : Value} (h : k + m ≤ n) : splice (rep k n v) k (List.replicate m v) = rep (k + m) n v := by
  unfold splice rep
  rw [List.take_append_of_le_length (by simp), List.take_of_length_le (by simp), List.drop_append]
  simp only [List.length_replicate, List.drop_replicate]
  rw [show k - (k + m) = 0 by omega, List.replicate_zero, List.nil_append, show n - k - (k + m - k) = n - (k + m) by omega, ← List.append_assoc, List.replicate_append_replicate]
theorem rep_zero (n : Nat) (v : Value) : rep 0 n v = List.replicate n (.int .i64 0) := by simp [rep]
theorem rep_full (n : Nat) (v : Value) : rep n n v = List.replicate n v := by simp [rep]
theorem rep_cell {w : World} {g k n : Nat} {v : Value} {t : TypeId} (h : w.heap[g]? = some (.cells (rep k n v).toArray t (0, 0))) {j : Nat} (hj : j < k) : w.cell? ⟨g, j, none⟩ = some v := by
  simp only [World.cell?, h]
  show (rep k n v).toArray[j]? = some v
  rw [List.getElem?_toArray, rep, List.getElem?_append_left (by simpa using hj)]
  simp [hj]

theorem mul_one_n (n : Nat) (hn : n ≤ 1000) (w : World) : Calls Try.prog 33 #[.int .u64 1, .int .u64 n] w fun e w' => e = .returned (.tuple #[.int .u64 0, .int .u64 n]) ∧ w' = w := by
  refine (Try.bits_Mul 1 n (by omega) (by omega) w).mono ?_
  rintro e w' ⟨rfl, rfl⟩
  rw [Nat.one_mul, Nat.div_eq_of_lt (by omega), Nat.mod_eq_of_lt (by omega)]
  exact ⟨rfl, rfl⟩

theorem first_copy (n b0 c0 g : Nat) (x : Int) (w' w1 : World) (hrow : w1.heap[g]? = some (.cells (rep 0 n (.int .i64 x)).toArray 3 (0, 0))) (hsrc : w1.cell? ⟨b0, 0, none⟩ = some (.int .i64 x)) (hsz1 : (Try.prog.info? 3).map (·.size) = some 1) (hb1 : Below w'.heap.size w' w1) (hg : w'.heap.size ≤ g) :
    ∃ (k0 : Nat) (w2 : World), (Builtin.copy_ #[22, 22] 3 #[.slice (some ⟨g, 0, none⟩) n n, .slice (some ⟨b0, 0, none⟩) 1 c0]).run Try.prog w1 = .ok (.int .i64 k0) w2 ∧ k0 ≤ n ∧ (n = 0 ∨ 1 ≤ k0) ∧ w2.heap[g]? = some (.cells (rep k0 n (.int .i64 x)).toArray 3 (0, 0)) ∧ Below w'.heap.size w' w2 := by
  by_cases h0 : n = 0
  · subst h0
    exact ⟨0, w1, run_copy_none w1 22 22 3 3 _ _ 0 0 1 c0 Try.underlying22 hsz1 rfl, Nat.le_refl _, .inl rfl, hrow, hb1⟩
  · have hmin : Nat.min 1 n = 1 := Nat.min_eq_left (by omega)
    have h := run_copy_row (P := Try.prog) w1 22 22 3 3 g 0 n n ⟨b0, 0, none⟩ 1 c0 (rep 0 n (.int .i64 x)).toArray 3 [.int .i64 x] Try.underlying22 hsz1 hrow hmin.symm (fun j v hj => by
      have hj0 : j = 0 := by
        have := (List.getElem?_eq_some_iff.1 hj).1
        simpa using this
      subst hj0
      cases hj
      rw [add_off]; exact hsrc) (by simp [rep_len]; omega) (fun v hv => by rw [List.mem_singleton.1 hv]; rfl)
    refine ⟨1, _, h, by omega, .inr (Nat.le_refl _), ?_, below_setRow hb1 hg _⟩
    have h2 := setRow_heap w1 g _ (((rep 0 n (.int .i64 x)).toArray.toList.take 0 ++ [Value.int .i64 x] ++ (rep 0 n (.int .i64 x)).toArray.toList.drop (0 + [Value.int .i64 x].length)).toArray) 3 (0, 0) hrow
    rw [h2]
    have h3 := rep_splice (k := 0) (m := 1) (n := n) (v := .int .i64 x) (by omega)
    unfold splice at h3
    simp only [Nat.zero_add, List.replicate_one, List.length_cons, List.length_nil] at h3
    simp only [List.length_cons, List.length_nil, Nat.zero_add, List.append_assoc]
    rw [h3]

set_option maxRecDepth 100000 in
set_option maxHeartbeats 2000000 in
theorem Repeat_one (x : Int) (n b0 c0 : Nat) (hn : n ≤ 1000) (w : World) (h0 : w.cell? ⟨b0, 0, none⟩ = some (.int .i64 x)) :
    Calls Try.prog 27 #[.slice (some ⟨b0, 0, none⟩) 1 c0, .int .i64 n] w fun e w' => ∃ g, e = .returned (.slice (some ⟨g, 0, none⟩) n n) ∧ w.heap.size ≤ g ∧ w'.heap[g]? = some (.cells (List.replicate n (Value.int .i64 x)).toArray 3 (0, 0)) ∧ Below w.heap.size w w' := by
  obtain ⟨i0, hi, hz0, hz1, hz2⟩ := info_parts Try.info3
  have hneg : ¬ (n : Int) < 0 := by omega
  have HM := hide' (mul_one_n n hn w)
  go_enter Try.func27, Try.ntmps27
  go_wp2_with fail
  refine HM.out.mono ?_
  rintro e w' ⟨rfl, rfl⟩
  have hsz1 : (Try.prog.info? 3).map (·.size) = some 1 := by rw [hi]; simp [hz1]
  go_wp2_with (at_make; refine wpList_make_full _ rfl _ _ 22 rfl w'.heap.size 3 i0 (.int .i64 0) 1 Try.underlying22 hi hz0 hz1 .i64 .i64 _ _ n rfl rfl rfl rfl (by rw [hz2]; omega) (by unfold maxLen; omega) (Nat.le_refl _) ?_; intro w1 hown1 hg1; refine Still.go ?_)
  unfold Still
  have hb1 : Below w'.heap.size w' w1 := (Below.refl _ w').grown hg1 (Nat.le_refl _) (fun k e => by cases e)
  have hrow := row_of_own hown1
  rw [made_zero, ← rep_zero n (.int .i64 x)] at hrow
  have hsrc := (hb1.cell (p := ⟨b0, 0, none⟩) (World.block_lt_of_cell? w' _ h0)).trans h0
  obtain ⟨k0, w2, hcp, hk2, hk3, hg2, hb2⟩ := first_copy n b0 c0 w'.heap.size x w' w1 hrow hsrc hsz1 hb1 (Nat.le_refl _)
  have HB2 := hide' hb2
  have HG2 := hide' hg2
  clear hown1 hg1 hb1 hrow hsrc hb2 hg2
  go_wp2_with fail
  go_loopw [8] (fun kk wr => ∃ (k : Nat), kk = .int .i64 k ∧ k ≤ n ∧ (n = 0 ∨ 1 ≤ k) ∧ Hid (wr.heap[w'.heap.size]? = some (.cells (rep k n (.int .i64 x)).toArray 3 (0, 0))) ∧ Hid (Below w'.heap.size w' wr)) (fun kk _ => n - (intOf kk).toNat)
  case atStart => exact ⟨k0, rfl, hk2, hk3, HG2, HB2⟩
  case round =>
    clear HG2 HB2 hk2 hk3 hcp
    obtain ⟨k, rfl, hk, hk1, HG, HB⟩ := hrel
    by_cases hlt : k < n
    · have hmn : Nat.min k (n - k) ≤ k ∧ Nat.min k (n - k) ≤ n - k ∧ 1 ≤ Nat.min k (n - k) := by
        have : Nat.min k (n - k) = if k ≤ n - k then k else n - k := Nat.min_def
        rw [this]; split <;> omega
      obtain ⟨m, hm⟩ : ∃ m, m = Nat.min k (n - k) := ⟨_, rfl⟩
      have HM2 := hide' hm
      rw [← hm] at hmn
      obtain ⟨m1, m2, m3⟩ := hmn
      clear hm
      go_wp2_with fail
      go_region_law (refine step_copy_splice rfl (.tmp 41) (.tmp 44) 22 22 rfl 3 Try.underlying22 hsz1 (some ⟨w'.heap.size, k, none⟩) (some ⟨w'.heap.size, 0, none⟩) (n - k) (n - k) k n (by simp [Act.eval, Act.put]; omega) (by simp [Act.eval, Act.put]) w'.heap.size k (rep k n (.int .i64 x)) 3 HG.out (List.replicate m (.int .i64 x)) (by rw [List.length_replicate, HM2.out]) (fun _ => ⟨rfl, _, rfl, fun j v hj => by rw [add_off, Nat.zero_add]; have hjm := (List.getElem?_eq_some_iff.1 hj).1; rw [List.length_replicate] at hjm; rw [List.getElem?_replicate, if_pos hjm] at hj; cases hj; exact rep_cell HG.out (by omega)⟩) (by rw [rep_len hk]; simp; omega) (fun v hv => by rw [List.eq_of_mem_replicate hv]; rfl) w'.heap.size w' (HB.out.drew) (Nat.le_refl _) ?_; intro w4 hg4 hb4)
      rw [rep_splice (by omega)] at hg4
      have hwr : IntKind.i64.wrap ((k : Int) + m) = (k : Int) + m := Go.IntWalk.i64_in _ (by omega)
      have HB4 := hide' hb4
      clear hb4
      go_wp2
      go_roundw
      case rel => exact ⟨k + m, by omega, by omega, by omega, hg4⟩
      case measure => simp [intOf]; omega
    · have hkn : k = n := by omega
      subst hkn
      go_wp2
      go_ret
      exact ⟨_, rfl, Nat.le_refl _, by rw [← rep_full]; exact HG.out, HB.out⟩
end Go.Proofs.Ytpejnkngmnabfai
