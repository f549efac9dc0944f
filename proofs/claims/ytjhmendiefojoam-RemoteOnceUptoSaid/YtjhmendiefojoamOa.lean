/- One is picked off the way. -/
import Derived.Test.YtjhmendiefojoamO9
namespace Go.Proofs.Ytjhmendiefojoam
open Go.RowKit Go.Shelf

theorem picked_any (n : Int) (f : Nat) (h : I6 n) (hf : 0 < f) (hf1 : f ≤ 3000000) (w : World) : Calls Try.prog 20 #[.int .i64 n, .int .i64 f] w fun e w' => e = .returned (.int .i64 (pickedI n f)) ∧ w' = w := by
  obtain ⟨h0, h1⟩ := h
  have hf0 : ((f : Int) == 0) = false := by simp; omega
  by_cases hn : n < 0
  · have hp : pickedI n f = (-(n + 1)).tmod f := by unfold pickedI; rw [if_pos hn]
    rw [hp]
    go_enter Try.func20, Try.ntmps20
    go_wp2
    go_ret
    exact ⟨by first | rfl | (rw [Int.neg_tmod]; rfl), rfl⟩
  · have hp : pickedI n f = n.tmod f := by unfold pickedI; rw [if_neg hn]
    rw [hp]
    go_enter Try.func20, Try.ntmps20
    go_wp2
    go_ret
    exact ⟨by first | rfl | (rw [Int.tmod_eq_emod_of_nonneg (by omega)]; rfl), rfl⟩
theorem picked_bd {n : Int} {f : Nat} (hf : 0 < f) : 0 ≤ pickedI n f ∧ pickedI n f < f := by
  unfold pickedI
  have hnn : 0 ≤ (if n < 0 then -(n + 1) else n) := by split <;> omega
  rw [Int.tmod_eq_emod_of_nonneg hnn]
  exact ⟨Int.emod_nonneg _ (by omega), Int.emod_lt_of_pos _ (by omega)⟩
theorem pick_bd {n : Nat} {mix : Int} (hn : 0 < n) : pickK n mix < n := by
  unfold pickK
  split
  · have := picked_bd (n := mix.tdiv 3) hn
    omega
  · exact hn
theorem under33 : Try.prog.underlying 33 = some (.slice (Try.prog.elem 33)) := by kernel_rfl
theorem size33 (w : World) : (sizeOf (Try.prog.elem 33)).run Try.prog w = .ok 4 w := by
  have h : (sizeOf 39).run Try.prog w = .ok 4 w := by
    simp [sizeOf]
    rfl
  exact h
theorem map_add0 (a : Option Addr) : a.map (fun x => x.add 0) = a := by
  cases a with
  | none => rfl
  | some x => simp [Addr.add]
theorem slice_head (w : World) (a : Option Addr) (n c : Nat) (k : Nat) (hk : k ≤ c) : (Instr.slice 33 (.slice a n c) none (some (.int .i64 (k : Int))) none).run Try.prog w = .ok (.slice a k c) w := by
  rw [run_slice_h w 33 a n c under33 .i64 (k : Int) (by omega) (by omega), size33]
  simp only [Result.andThen, sliced, Int.toNat_natCast, Nat.zero_mul, map_add0, ite_self, Nat.sub_zero]
theorem slice_rest (w : World) (a : Option Addr) (n c : Nat) (k : Nat) (hk : k ≤ n) : (Instr.slice 33 (.slice a n c) (some (.int .i64 ((k : Nat) : Int))) none none).run Try.prog w = .ok (.slice (if c = k then a else a.map (·.add (k * 4))) (n - k) (c - k)) w := by
  rw [run_slice_l w 33 a n c under33 .i64 (k : Int) (by omega) (by omega), size33]
  simp only [Result.andThen, sliced, Int.toNat_natCast]
theorem msgs_len (l : List MsM) : (msgs l).length = l.length * 4 := by
  unfold msgs
  induction l with
  | nil => rfl
  | cons x r ih => rw [List.flatMap_cons, List.length_append, ih, List.length_cons]; show 4 + _ = _; omega
theorem msgs_take (l : List MsM) (k : Nat) : msgs (l.take k) = (msgs l).take (k * 4) := by
  induction l generalizing k with
  | nil => simp [msgs]
  | cons x r ih =>
    cases k with
    | zero => simp [msgs]
    | succ k =>
      show msgs (x :: r.take k) = _
      have e1 : msgs (x :: r.take k) = x.cells.toList ++ msgs (r.take k) := by unfold msgs; rw [List.flatMap_cons]
      have e2 : msgs (x :: r) = x.cells.toList ++ msgs r := by unfold msgs; rw [List.flatMap_cons]
      have e3 : x.cells.toList.length = 4 := rfl
      have e4 : x.cells.toList.take ((k + 1) * 4) = x.cells.toList := List.take_of_length_le (by rw [e3]; omega)
      rw [e1, e2, ih, List.take_append, e3, show (k + 1) * 4 - 4 = k * 4 by omega, e4]
theorem msgs_drop (l : List MsM) (k : Nat) : msgs (l.drop k) = (msgs l).drop (k * 4) := by
  induction l generalizing k with
  | nil => simp [msgs]
  | cons x r ih =>
    cases k with
    | zero => simp
    | succ k =>
      have e2 : msgs (x :: r) = x.cells.toList ++ msgs r := by unfold msgs; rw [List.flatMap_cons]
      have e3 : x.cells.toList.length = 4 := rfl
      have e4 : x.cells.toList.drop ((k + 1) * 4) = [] := List.drop_eq_nil_of_le (by rw [e3]; omega)
      rw [List.drop_succ_cons, ih, e2, List.drop_append, e3, show (k + 1) * 4 - 4 = k * 4 by omega, e4, List.nil_append]
theorem row_head {w : World} {a : Option Addr} {n c : Nat} {l : List MsM} (h : RowAt w (.slice a n c) n 4 (msgs l)) (hl : l.length = n) (k : Nat) (hk : k ≤ n) : RowAt w (.slice a k c) (l.take k).length 4 (msgs (l.take k)) := by
  obtain ⟨h1, a', c', ex, h2⟩ := h
  simp only [Value.slice.injEq] at ex
  obtain ⟨rfl, _, rfl⟩ := ex
  rw [List.length_take, Nat.min_eq_left (by omega)]
  refine ⟨by rw [msgs_len, List.length_take]; omega, a, c, rfl, fun j u hj => h2 j u ?_⟩
  rw [msgs_take] at hj
  have hjk := (List.getElem?_eq_some_iff.1 hj).1
  rw [List.length_take] at hjk
  rw [List.getElem?_take_of_lt (by omega)] at hj
  exact hj
theorem row_rest {w : World} {a : Option Addr} {n c : Nat} {l : List MsM} (h : RowAt w (.slice a n c) n 4 (msgs l)) (hl : l.length = n) (k : Nat) (hk : k ≤ n) (hc : n ≤ c) : RowAt w (.slice (if c = k then a else a.map (·.add (k * 4))) (n - k) (c - k)) (l.drop k).length 4 (msgs (l.drop k)) := by
  obtain ⟨h1, a', c', ex, h2⟩ := h
  simp only [Value.slice.injEq] at ex
  obtain ⟨rfl, _, rfl⟩ := ex
  rw [List.length_drop, hl]
  refine ⟨by rw [msgs_len, List.length_drop, hl], _, _, rfl, fun j u hj => ?_⟩
  rw [msgs_drop, List.getElem?_drop] at hj
  have hjk := (List.getElem?_eq_some_iff.1 hj).1
  rw [msgs_len] at hjk
  obtain ⟨b, off, rfl, hcell⟩ := h2 (k * 4 + j) u hj
  refine ⟨b, off + k * 4, ?_, by rw [Nat.add_assoc]; exact hcell⟩
  rw [if_neg (by omega)]
  show some ((⟨b, off, none⟩ : Addr).add (k * 4)) = _
  rw [add_off]
theorem own_cap {w : World} {B e sz n c : Nat} {a : Option Addr} {xs : List Value} (h : w.ownsRow B e sz (.slice a n c) n xs) : n ≤ c := by
  rcases h.2 with ⟨h1, h2⟩ | ⟨g, cap, cur, h1, _, _, h3, _⟩
  · simp only [Value.slice.injEq] at h1
    omega
  · simp only [Value.slice.injEq] at h1
    omega
theorem msgs_at {l : List MsM} {k : Nat} {x : MsM} (h : l[k]? = some x) (j : Nat) (hj : j < 4) : (msgs l)[k * 4 + j]? = x.cells.toList[j]? := by
  have hlt := (List.getElem?_eq_some_iff.1 h).1
  have e : msgs l = (msgs l).take (k * 4) ++ (msgs l).drop (k * 4) := (List.take_append_drop _ _).symm
  rw [e, List.getElem?_append_right (by rw [List.length_take, msgs_len]; omega), List.length_take, msgs_len, show k * 4 + j - min (k * 4) (l.length * 4) = j by omega, ← msgs_drop]
  have e2 : l.drop k = x :: l.drop (k + 1) := by
    rw [List.drop_eq_getElem_cons hlt]
    rw [List.getElem?_eq_getElem hlt] at h
    cases h
    rfl
  rw [e2]
  have e1 : msgs (x :: l.drop (k + 1)) = x.cells.toList ++ msgs (l.drop (k + 1)) := by unfold msgs; rw [List.flatMap_cons]
  rw [e1, List.getElem?_append_left (by show j < 4; exact hj)]
end Go.Proofs.Ytjhmendiefojoam
