/- Numbers as rows of digits: compared. -/
import Derived.Test.YtmbgjmkndhjilakFb
namespace Go.Proofs.Ytmbgjmkndhjilak
open Go.RowKit Go.Shelf

def cmpN (a b : Nat) : Int := if a < b then -1 else if b < a then 1 else 0
theorem cmp_lt {a b : Nat} (h : a < b) : cmpN a b = -1 := if_pos h
theorem cmp_gt {a b : Nat} (h : b < a) : cmpN a b = 1 := by
  unfold cmpN
  rw [if_neg (by omega), if_pos h]
theorem cmp_eq {a b : Nat} (h : a = b) : cmpN a b = 0 := by
  unfold cmpN
  rw [if_neg (by omega), if_neg (by omega)]
theorem drop_step {a : List Nat} {m : Nat} (h : m < a.length) : a.drop m = a.getD m 0 :: a.drop (m + 1) := by
  rw [List.drop_eq_getElem_cons h, List.getD_eq_getElem?_getD, List.getElem?_eq_getElem h]
  rfl
def CmpR (n : Int) (w : World) (e : Ending) (w' : World) : Prop := e = .returned (.int .i64 n) ∧ Below w.heap.size w w'
set_option maxRecDepth 100000 in
set_option maxHeartbeats 4000000 in
theorem natCmp_row (a b : List Nat) (ha : Canon a) (hb : Canon b) (u v : Value) (w : World) (hu : RowAt w u a.length 1 (ints (dg a))) (hv : RowAt w v b.length 1 (ints (dg b))) (hn : a.length ≤ 100000) (_hm : b.length ≤ 100000) : Calls Try.prog 79 #[u, v] w (CmpR (cmpN (valN a) (valN b)) w) := by
  have HU := hide' hu
  have HV := hide' hv
  obtain ⟨au, cu, rfl⟩ := rowAt_slice hu
  obtain ⟨av, cv, rfl⟩ := rowAt_slice hv
  clear hu hv
  obtain ⟨n, HN⟩ : ∃ n, Hid (n = cmpN (valN a) (valN b)) := ⟨_, rfl⟩
  rw [← HN.out]
  by_cases hl : a.length = b.length
  · rw [hl] at hn HU
    rw [hl]
    go_enter Try.func79, Try.ntmps79
    go_wp2_with fail
    go_loopw [5] (fun i wr => ∃ (k : Nat), i = .int .i64 ((k : Int) - 1) ∧ k ≤ b.length ∧ Hid (a.drop k = b.drop k) ∧ Hid (Below w.heap.size w wr)) (fun i _ => (intOf i + 1).toNat)
    case atStart => exact ⟨b.length, rfl, Nat.le_refl _, (List.drop_of_length_le (by omega)).trans (List.drop_of_length_le (Nat.le_refl _)).symm, Below.refl _ w⟩
    case round =>
      obtain ⟨k, rfl, hk, HD, HBE⟩ := hrel
      by_cases h0 : k = 0
      · subst h0
        have hz : n = 0 := by
          rw [HN.out]
          exact cmp_eq (by have := HD.out; rw [List.drop_zero, List.drop_zero] at this; rw [this])
        subst hz
        go_wp2_with fail
        go_ret
        exact ⟨rfl, HBE.out⟩
      · obtain ⟨m, rfl⟩ : ∃ m, k = m + 1 := ⟨k - 1, by omega⟩
        obtain ⟨b1, o1, c1, ex1, hc1⟩ := dg_cell (hl ▸ HU.out : RowAt w (.slice au a.length cu) a.length 1 (ints (dg a))) m (by omega)
        obtain ⟨b2, o2, c2, ex2, hc2⟩ := dg_cell HV.out m (by omega)
        have e1 := up_cell HBE.out hc1
        have e2 := up_cell HBE.out hc2
        simp only [Value.slice.injEq] at ex1 ex2
        obtain ⟨ex1, _, _⟩ := ex1
        obtain ⟨ex2, _, _⟩ := ex2
        subst ex1 ex2
        rw [show ((m + 1 : Nat) : Int) - 1 = (m : Int) by omega]
        have HST : Hid (a.getD m 0 = b.getD m 0 → a.drop m = b.drop m) := fun h => by rw [drop_step (a := a) (m := m) (by omega), drop_step (a := b) (m := m) (by omega), h, HD.out]
        have HLT : Hid (a.getD m 0 < b.getD m 0 → n = -1) := fun h => by rw [HN.out]; exact cmp_lt (cmp_at ha.dg (by omega) hl HD.out h)
        have HGT : Hid (b.getD m 0 < a.getD m 0 → n = 1) := fun h => by rw [HN.out]; exact cmp_gt (cmp_at hb.dg (by omega) hl.symm HD.out.symm h)
        obtain ⟨x, hx⟩ : ∃ x, x = a.getD m 0 := ⟨_, rfl⟩
        obtain ⟨y, hy⟩ : ∃ y, y = b.getD m 0 := ⟨_, rfl⟩
        rw [← hx, ← hy] at HST HLT HGT
        rw [← hx] at e1
        rw [← hy] at e2
        have HBD : Hid (∀ j, Below w.heap.size w (wr.drewN j)) := fun j => below_drewN HBE.out j
        clear hc1 hc2 hx hy HBE HN HD h0
        by_cases h1 : x = y
        · subst h1
          have HST2 := hide' (HST.out rfl)
          clear HST HLT HGT
          go_wp2_with fail
          go_quiet (fail)
          go_wp2
          go_roundw
          case rel => exact ⟨m, by go_num, by omega, HST2.out, HBD.out _⟩
          case measure => simp only [intOf]; omega
        · have h2 : ¬ (x : Int) = (y : Int) := by omega
          by_cases h3 : x < y
          · have h4 : (x : Int) < (y : Int) := by omega
            obtain rfl := HLT.out h3
            clear HST HLT HGT
            go_wp2_with fail
            go_quiet (fail)
            go_wp2_with fail
            go_quiet (fail)
            go_wp2
            go_ret
            exact ⟨rfl, below_drewN (HBD.out _) _⟩
          · have h4 : ¬ (x : Int) < (y : Int) := by omega
            obtain rfl := HGT.out (by omega)
            clear HST HLT HGT
            go_wp2_with fail
            go_quiet (fail)
            go_wp2_with fail
            go_quiet (fail)
            go_wp2
            go_ret
            exact ⟨rfl, below_drewN (HBD.out _) _⟩
  · have hl2 : ¬ (a.length : Int) = (b.length : Int) := by omega
    by_cases h3 : a.length < b.length
    · have h4 : (a.length : Int) < (b.length : Int) := by omega
      obtain rfl : n = -1 := by rw [HN.out]; exact cmp_lt (len_lt_val ha.dg hb h3)
      go_enter Try.func79, Try.ntmps79
      go_wp2
      go_ret
      exact ⟨rfl, Below.refl _ w⟩
    · have h4 : ¬ (a.length : Int) < (b.length : Int) := by omega
      obtain rfl : n = 1 := by rw [HN.out]; exact cmp_gt (len_lt_val hb.dg ha (by omega))
      go_enter Try.func79, Try.ntmps79
      go_wp2
      go_ret
      exact ⟨rfl, Below.refl _ w⟩
end Go.Proofs.Ytmbgjmkndhjilak
