/- Which points are together with some, in the program. -/
import Derived.Test.YtcnoipcpifackahY3
namespace Go.Proofs.Ytcnoipcpifackah
open Go.RowKit Go.Shelf

set_option maxRecDepth 100000 in
set_option maxHeartbeats 2000000 in
theorem same_any (grp : List Int) (q : Nat) (g : Int) (B D n cg : Nat) (ag : Option Addr) (w : World) (hB : w.cell? ⟨B, 4, none⟩ = some (.slice ag n cg)) (hr : RowAt w (.slice ag n cg) n 1 (ints grp)) (hD : w.cell? ⟨D, 0, none⟩ = some (.int .i64 g)) (hl : grp.length = n) (hq : q < n) (_hn : n ≤ 1000) : Calls Try.prog 59 #[.int .i64 q, .pointer (some ⟨B, 0, none⟩), .pointer (some ⟨D, 0, none⟩)] w fun e w' => e = .returned (.bool (grp.getD q 0 == g)) ∧ Below w.heap.size w w' := by
  obtain ⟨bt, ot, ct, ex, hc⟩ := ints_cell2 hr q (by rw [hl]; exact hq)
  cases ex
  obtain ⟨x, hx⟩ : ∃ x, x = grp.getD q 0 := ⟨_, rfl⟩
  rw [← hx] at hc ⊢
  have HB : Hid (∀ m, Below w.heap.size w (w.drewN m)) := fun m => below_drewN (Below.refl _ w) m
  clear hr hx hl
  go_enter Try.func59, Try.ntmps59
  go_wp2_with fail
  go_quiet (fail)
  go_wp2
  go_ret
  exact ⟨rfl, HB.out _⟩
set_option maxRecDepth 100000 in
set_option maxHeartbeats 2000000 in
theorem indexInt_any (grp l : List Int) (g : Int) (B D n cg : Nat) (ag : Option Addr) (v : Value) (w : World) (hx : RowAt w v l.length 1 (ints l)) (hB : w.cell? ⟨B, 4, none⟩ = some (.slice ag n cg)) (hr : RowAt w (.slice ag n cg) n 1 (ints grp)) (hD : w.cell? ⟨D, 0, none⟩ = some (.int .i64 g)) (hl : grp.length = n) (hq : ∀ q ∈ l, 0 ≤ q ∧ q < n) (hn : n ≤ 1000) (hll : l.length ≤ 9000000000000000000) :
    Calls Try.prog 60 #[v, .func (.func 59) #[] #[.pointer (some ⟨B, 0, none⟩), .pointer (some ⟨D, 0, none⟩)]] w fun e w' => (∃ k : Int, e = .returned (.int .i64 k) ∧ decide (0 ≤ k) = l.any fun q => grp.getD q.toNat 0 == g) ∧ Below w.heap.size w w' := by
  have HG := hide' hx
  have HQ := hide' hq
  have HC : Hid (∀ w', Below w.heap.size w w' → ∀ q, q < n → Calls Try.prog 59 #[.int .i64 q, .pointer (some ⟨B, 0, none⟩), .pointer (some ⟨D, 0, none⟩)] w' fun e w'' => e = .returned (.bool (grp.getD q 0 == g)) ∧ Below w'.heap.size w' w'') := fun w' hb q hq => same_any grp q g B D n cg ag w' (up_cell hb hB) (hr.below hb (Nat.le_refl _)) (up_cell hb hD) hl hq hn
  obtain ⟨al, cl, rfl⟩ := rowAt_slice hx
  clear hx hq hB hr hD
  go_enter Try.func60, Try.ntmps60
  go_wp2_with fail
  go_loopw [8] (fun i wr => ∃ (k : Nat), i = .int .i64 k ∧ k ≤ l.length ∧ Hid (∀ (j : Nat) (hj : j < l.length), j < k → (grp.getD l[j].toNat 0 == g) = false) ∧ Hid (Below w.heap.size w wr)) (fun i _ => l.length - (intOf i).toNat)
  case atStart => exact ⟨0, rfl, Nat.zero_le _, fun j _ h => absurd h (Nat.not_lt_zero j), Below.refl _ w⟩
  case round =>
    obtain ⟨k, rfl, hk, HOK, HBE⟩ := hrel
    by_cases hlt : k < l.length
    · obtain ⟨bt, ot, ct', ex, hct⟩ := ints_cell HG.out k hlt
      cases ex
      have c0 := up_cell HBE.out hct
      have hqk := HQ.out l[k] (List.getElem_mem hlt)
      have HK : Hid (l.getD k 0 = l[k]) := by show _ = _; rw [List.getD_eq_getElem?_getD, List.getElem?_eq_getElem hlt]; rfl
      obtain ⟨q, hqe⟩ : ∃ q : Nat, l[k] = (q : Int) := ⟨l[k].toNat, by omega⟩
      rw [HK.out, hqe] at c0
      have HC1 := hide' (HC.out wr HBE.out q (by omega))
      have HNEXT : Hid ((grp.getD q 0 == g) = false → ∀ (j : Nat) (hj : j < l.length), j < k + 1 → (grp.getD l[j].toNat 0 == g) = false) := fun h j hj hjk => by
        by_cases e : j = k
        · subst e; rw [hqe, Int.toNat_natCast]; exact h
        · exact HOK.out j hj (by omega)
      have HYES : Hid ((grp.getD q 0 == g) = true → (l.any fun q => grp.getD q.toNat 0 == g) = true) := fun h => by
        rw [List.any_eq_true]
        exact ⟨l[k], List.getElem_mem hlt, by rw [hqe, Int.toNat_natCast]; exact h⟩
      obtain ⟨mb, hmb⟩ : ∃ mb, mb = (grp.getD q 0 == g) := ⟨_, rfl⟩
      rw [← hmb] at HC1 HNEXT HYES
      clear hct hqk hqe HOK hmb HK
      go_wp2_with fail
      refine HC1.out.mono ?_
      rintro e w1 ⟨rfl, hb1⟩
      have HB1 : Hid (Below w.heap.size w w1) := HBE.out.trans (hb1.mono HBE.out.size)
      clear hb1 c0 HC1 HBE
      cases mb with
      | true =>
        have HY := hide' (HYES.out rfl)
        go_wp2
        go_ret
        exact ⟨⟨_, rfl, by rw [HY.out]; simp⟩, HB1.out⟩
      | false =>
        have HY := hide' (HNEXT.out rfl)
        go_wp2
        go_roundw
        case rel => exact ⟨k + 1, by go_num, by omega, HY.out, HB1.out⟩
        case measure => simp [intOf]; omega
    · have HALL : Hid ((l.any fun q => grp.getD q.toNat 0 == g) = false) := by
        show _ = _
        rw [List.any_eq_false]
        intro x hx
        obtain ⟨i, hi, rfl⟩ := List.getElem_of_mem hx
        rw [HOK.out i hi (by omega)]
        decide
      go_wp2
      go_ret
      exact ⟨⟨_, rfl, by rw [HALL.out]; rfl⟩, HBE.out⟩
set_option maxRecDepth 100000 in
theorem containsInt_any (grp l : List Int) (g : Int) (B D n cg : Nat) (ag : Option Addr) (v : Value) (w : World) (hx : RowAt w v l.length 1 (ints l)) (hB : w.cell? ⟨B, 4, none⟩ = some (.slice ag n cg)) (hr : RowAt w (.slice ag n cg) n 1 (ints grp)) (hD : w.cell? ⟨D, 0, none⟩ = some (.int .i64 g)) (hl : grp.length = n) (hq : ∀ q ∈ l, 0 ≤ q ∧ q < n) (hn : n ≤ 1000) (hll : l.length ≤ 9000000000000000000) :
    Calls Try.prog 58 #[v, .func (.func 59) #[] #[.pointer (some ⟨B, 0, none⟩), .pointer (some ⟨D, 0, none⟩)]] w fun e w' => e = .returned (.bool (l.any fun q => grp.getD q.toNat 0 == g)) ∧ Below w.heap.size w w' := by
  have HC := hide' (indexInt_any grp l g B D n cg ag v w hx hB hr hD hl hq hn hll)
  clear hx hB hr hD hq
  go_enter Try.func58, Try.ntmps58
  go_wp2_with fail
  refine HC.out.mono ?_
  rintro e w1 ⟨⟨k, rfl, hkk⟩, hb⟩
  have HK := hide' hkk
  have HB := hide' hb
  clear hkk hb HC
  by_cases h0 : 0 ≤ k
  · go_wp2
    go_ret
    exact ⟨by rw [← HK.out]; simp [h0], HB.out⟩
  · go_wp2
    go_ret
    exact ⟨by rw [← HK.out]; simp, HB.out⟩
end Go.Proofs.Ytcnoipcpifackah
