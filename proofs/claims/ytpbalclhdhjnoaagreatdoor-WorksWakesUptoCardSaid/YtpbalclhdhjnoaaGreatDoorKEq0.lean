/- The program's own equality of two lists, both answers. -/
import Derived.Test.YtpbalclhdhjnoaaGreatDoorKWr4
namespace Go.Proofs.YtpbalclhdhjnoaaGreatDoor
open Go.RowKit Go.Shelf

theorem drewB {B : Nat} {a w : World} (h : Below B a w) : Below B a w.drew := ⟨h.os, h.tape, h.output, h.size, h.block⟩
theorem take_next {α : Type} {xs ys : List α} {k : Nat} (hx : k < xs.length) (hy : k < ys.length) (h : xs.take k = ys.take k) (e : xs[k] = ys[k]) : xs.take (k + 1) = ys.take (k + 1) := by
  rw [List.take_succ_eq_append_getElem hx, List.take_succ_eq_append_getElem hy, h, e]
theorem text_ne {x y : ByteArray} (h : x ≠ y) : (x.toList == y.toList) = false := by
  rw [beq_eq_false_iff_ne]
  intro e
  apply h
  apply ByteArray.ext
  have := congrArg List.toArray e
  simpa [ByteArray.toList_eq] using this

set_option maxHeartbeats 2000000 in
set_option maxRecDepth 100000 in
theorem eqTexts2 (xs ys : List ByteArray) (B B' : Nat) (va vb : Value) (w : World) (hn : xs.length ≤ 2000000) (hn2 : ys.length ≤ 2000000) (ha : w.ownsRow B 9 1 va xs.length (xs.map Value.string)) (hb : w.ownsRow B' 9 1 vb ys.length (ys.map Value.string)) :
    Calls Tryz.prog 41 #[va, vb] w fun e w' => e = .returned (.bool (decide (xs = ys))) ∧ Below w.heap.size w w' := by
  obtain ⟨a, ca, rfl⟩ := own_slice ha
  obtain ⟨b, cb, rfl⟩ := own_slice hb
  by_cases hl : xs.length = ys.length
  · have HA := hide' ha
    have HZ := hide' hb
    have HLL := hide' hl
    rw [← hl] at hb ⊢
    clear ha hb hl
    go_enter Tryz.func41, Tryz.ntmps41
    go_wp2
    go_loopw [13] (fun si W => ∃ k : Nat, si = .int .i64 k ∧ k ≤ xs.length ∧ Hid (xs.take k = ys.take k) ∧ Hid (Below w.heap.size w W)) (fun si _ => xs.length - (intOf si).toNat)
    case atStart => exact ⟨0, rfl, Nat.zero_le _, rfl, Below.refl _ _⟩
    case round =>
      rename World => w2
      obtain ⟨k, rfl, hk, HTK, HB⟩ := hrel
      by_cases hlt : k < xs.length
      · have hlt2 : k < ys.length := by have := HLL.out; omega
        obtain ⟨bx, ox, hax, hx⟩ := bus_cells HA.out (by omega)
        obtain ⟨bz, oz, haz, hz⟩ := bus_cells HZ.out (by omega)
        subst hax haz
        have e0 := (HB.out.cell (p := ⟨bx, ox + k, none⟩) (World.block_lt_of_cell? w _ (hx k hlt))).trans (hx k hlt)
        have z0 := (HB.out.cell (p := ⟨bz, oz + k, none⟩) (World.block_lt_of_cell? w _ (hz k hlt2))).trans (hz k hlt2)
        by_cases he : xs[k] = ys[k]
        · have HTK2 := hide' (take_next hlt hlt2 HTK.out he)
          rw [he] at e0
          obtain ⟨x, hxe⟩ : ∃ x, x = ys[k] := ⟨_, rfl⟩
          rw [← hxe] at e0 z0
          clear hx hz hxe he hlt2
          go_wp2
          go_region
          go_wp2
          exact ⟨⟨k + 1, by go_num, by omega, HTK2, drewB HB.out⟩, by simp [intOf]; omega⟩
        · have hne := text_ne he
          have HNE : Hid (decide (xs = ys) = false) := by
            refine decide_eq_false fun e => he ?_
            subst e
            rfl
          obtain ⟨x, hxe⟩ : ∃ x, x = xs[k] := ⟨_, rfl⟩
          obtain ⟨y, hye⟩ : ∃ y, y = ys[k] := ⟨_, rfl⟩
          rw [← hxe] at e0 hne
          rw [← hye] at z0 hne
          clear hx hz hxe hye he hlt2
          go_wp2
          go_region
          go_wp2
          go_ret
          exact ⟨by rw [HNE.out]; rfl, drewB HB.out⟩
      · have HEQ : Hid (decide (xs = ys) = true) := by
          have h1 := HTK.out
          have h2 := HLL.out
          rw [List.take_of_length_le (by omega), List.take_of_length_le (by omega)] at h1
          exact decide_eq_true h1
        go_wp2
        go_ret
        exact ⟨by rw [HEQ.out]; rfl, HB.out⟩
  · have hne : ((xs.length : Int) != (ys.length : Int)) = true := by simp; omega
    have HNE : Hid (decide (xs = ys) = false) := decide_eq_false fun e => hl (by rw [e])
    clear ha hb
    go_enter Tryz.func41, Tryz.ntmps41
    go_wp2
    go_ret
    exact ⟨by rw [HNE.out]; rfl, Below.refl _ _⟩
end Go.Proofs.YtpbalclhdhjnoaaGreatDoor

namespace Go.Proofs.YtpbalclhdhjnoaaGreatDoor
open Go.RowKit Go.Shelf

set_option maxHeartbeats 4000000 in
set_option maxRecDepth 100000 in
theorem eqLines2 (xs ys : List LineM) (B B' : Nat) (va vb : Value) (w : World) (hn : xs.length ≤ 2000000) (hn2 : ys.length ≤ 2000000) (ha : w.ownsRow B 54 5 va xs.length (xs.flatMap LineM.cells)) (hb : w.ownsRow B' 54 5 vb ys.length (ys.flatMap LineM.cells)) :
    Calls Tryz.prog 42 #[va, vb] w fun e w' => (∃ r : Bool, e = .returned (.bool r) ∧ (r = true ↔ xs = ys)) ∧ Below w.heap.size w w' := by
  obtain ⟨a, ca, rfl⟩ := own_slice ha
  obtain ⟨b, cb, rfl⟩ := own_slice hb
  by_cases hl : xs.length = ys.length
  · have HA := hide' ha
    have HZ := hide' hb
    have HLL := hide' hl
    rw [← hl] at hb ⊢
    clear ha hb hl
    go_enter Tryz.func42, Tryz.ntmps42
    go_wp2
    go_loopw [13] (fun si W => ∃ k : Nat, si = .int .i64 k ∧ k ≤ xs.length ∧ Hid (xs.take k = ys.take k) ∧ Hid (Below w.heap.size w W)) (fun si _ => xs.length - (intOf si).toNat)
    case atStart => exact ⟨0, rfl, Nat.zero_le _, rfl, Below.refl _ _⟩
    case round =>
      rename World => w2
      obtain ⟨k, rfl, hk, HTK, HB⟩ := hrel
      by_cases hlt : k < xs.length
      · have hlt2 : k < ys.length := by have := HLL.out; omega
        obtain ⟨bx, ox, hax, hx⟩ := elem_cells (f := LineM.cells) (sz := 5) (fun _ => rfl) HA.out k hlt (by decide)
        obtain ⟨bz, oz, haz, hz⟩ := elem_cells (f := LineM.cells) (sz := 5) (fun _ => rfl) HZ.out k hlt2 (by decide)
        subst hax haz
        have HNX : Hid (xs[k] = ys[k] → xs.take (k + 1) = ys.take (k + 1)) := fun e => take_next hlt hlt2 HTK.out e
        have HNE : Hid (xs[k] ≠ ys[k] → xs ≠ ys) := fun hne e => hne (by subst e; rfl)
        obtain ⟨L, hL⟩ : ∃ L, L = xs[k] := ⟨_, rfl⟩
        obtain ⟨R, hR⟩ : ∃ R, R = ys[k] := ⟨_, rfl⟩
        rw [← hL] at hx HNX HNE
        rw [← hR] at hz HNX HNE
        have e0 : w2.cell? ⟨bx, ox + k * 5, none⟩ = some (.string L.name) := (HB.out.cell (p := ⟨bx, ox + k * 5, none⟩) (World.block_lt_of_cell? w _ (hx 0 _ rfl))).trans (hx 0 _ rfl)
        have z0 : w2.cell? ⟨bz, oz + k * 5, none⟩ = some (.string R.name) := (HB.out.cell (p := ⟨bz, oz + k * 5, none⟩) (World.block_lt_of_cell? w _ (hz 0 _ rfl))).trans (hz 0 _ rfl)
        have e1 : w2.cell? ⟨bx, ox + k * 5 + 1, none⟩ = some (.int .i64 L.frm) := (HB.out.cell (p := ⟨bx, ox + k * 5 + 1, none⟩) (World.block_lt_of_cell? w _ (hx 1 _ rfl))).trans (hx 1 _ rfl)
        have z1 : w2.cell? ⟨bz, oz + k * 5 + 1, none⟩ = some (.int .i64 R.frm) := (HB.out.cell (p := ⟨bz, oz + k * 5 + 1, none⟩) (World.block_lt_of_cell? w _ (hz 1 _ rfl))).trans (hz 1 _ rfl)
        have e2 : w2.cell? ⟨bx, ox + k * 5 + 2, none⟩ = some (.int .i64 L.to) := (HB.out.cell (p := ⟨bx, ox + k * 5 + 2, none⟩) (World.block_lt_of_cell? w _ (hx 2 _ rfl))).trans (hx 2 _ rfl)
        have z2 : w2.cell? ⟨bz, oz + k * 5 + 2, none⟩ = some (.int .i64 R.to) := (HB.out.cell (p := ⟨bz, oz + k * 5 + 2, none⟩) (World.block_lt_of_cell? w _ (hz 2 _ rfl))).trans (hz 2 _ rfl)
        have e3 : w2.cell? ⟨bx, ox + k * 5 + 3, none⟩ = some (.int .i64 L.worth) := (HB.out.cell (p := ⟨bx, ox + k * 5 + 3, none⟩) (World.block_lt_of_cell? w _ (hx 3 _ rfl))).trans (hx 3 _ rfl)
        have z3 : w2.cell? ⟨bz, oz + k * 5 + 3, none⟩ = some (.int .i64 R.worth) := (HB.out.cell (p := ⟨bz, oz + k * 5 + 3, none⟩) (World.block_lt_of_cell? w _ (hz 3 _ rfl))).trans (hz 3 _ rfl)
        have e4 : w2.cell? ⟨bx, ox + k * 5 + 4, none⟩ = some (.int .i64 L.limit) := (HB.out.cell (p := ⟨bx, ox + k * 5 + 4, none⟩) (World.block_lt_of_cell? w _ (hx 4 _ rfl))).trans (hx 4 _ rfl)
        have z4 : w2.cell? ⟨bz, oz + k * 5 + 4, none⟩ = some (.int .i64 R.limit) := (HB.out.cell (p := ⟨bz, oz + k * 5 + 4, none⟩) (World.block_lt_of_cell? w _ (hz 4 _ rfl))).trans (hz 4 _ rfl)
        clear hx hz hL hR hlt2
        by_cases hLR : L = R
        · have HT2 := hide' (HNX.out hLR)
          subst hLR
          clear HNX HNE
          go_wp2
          go_region
          go_wp2
          exact ⟨⟨k + 1, by go_num, by omega, HT2, drewB HB.out⟩, by simp [intOf]; omega⟩
        · have HN2 := hide' (HNE.out hLR)
          clear HNX HNE
          by_cases h0 : L.name = R.name
          rotate_left
          · have n0 := text_ne h0
            go_wp2
            go_region
            go_wp2
            go_ret
            exact ⟨⟨false, rfl, fun h => (by cases h), fun h => absurd h HN2.out⟩, drewB HB.out⟩
          rw [h0] at e0
          by_cases h1 : L.frm = R.frm
          rotate_left
          · have n1 : (L.frm == R.frm) = false := beq_eq_false_iff_ne.2 h1
            go_wp2
            go_region
            go_wp2
            go_ret
            exact ⟨⟨false, rfl, fun h => (by cases h), fun h => absurd h HN2.out⟩, drewB HB.out⟩
          rw [h1] at e1
          by_cases h2 : L.to = R.to
          rotate_left
          · have n2 : (L.to == R.to) = false := beq_eq_false_iff_ne.2 h2
            go_wp2
            go_region
            go_wp2
            go_ret
            exact ⟨⟨false, rfl, fun h => (by cases h), fun h => absurd h HN2.out⟩, drewB HB.out⟩
          rw [h2] at e2
          by_cases h3 : L.worth = R.worth
          rotate_left
          · have n3 : (L.worth == R.worth) = false := beq_eq_false_iff_ne.2 h3
            go_wp2
            go_region
            go_wp2
            go_ret
            exact ⟨⟨false, rfl, fun h => (by cases h), fun h => absurd h HN2.out⟩, drewB HB.out⟩
          rw [h3] at e3
          by_cases h4 : L.limit = R.limit
          rotate_left
          · have n4 : (L.limit == R.limit) = false := beq_eq_false_iff_ne.2 h4
            go_wp2
            go_region
            go_wp2
            go_ret
            exact ⟨⟨false, rfl, fun h => (by cases h), fun h => absurd h HN2.out⟩, drewB HB.out⟩
          rw [h4] at e4
          exact absurd (by cases L; cases R; simp_all) hLR
      · have HEQ : Hid (xs = ys) := by
          have h1 := HTK.out
          have h2 := HLL.out
          rw [List.take_of_length_le (by omega), List.take_of_length_le (by omega)] at h1
          exact h1
        go_wp2
        go_ret
        exact ⟨⟨true, rfl, fun _ => HEQ.out, fun _ => rfl⟩, HB.out⟩
  · have hne : ((xs.length : Int) != (ys.length : Int)) = true := by simp; omega
    have HNE : Hid (¬ xs = ys) := fun e => hl (by rw [e])
    clear ha hb
    go_enter Tryz.func42, Tryz.ntmps42
    go_wp2
    go_ret
    exact ⟨⟨false, rfl, fun h => (by cases h), fun h => absurd h HNE.out⟩, Below.refl _ _⟩

set_option maxHeartbeats 4000000 in
set_option maxRecDepth 100000 in
theorem eqGens2 (xs ys : List GenM) (B B' : Nat) (va vb : Value) (w : World) (hn : xs.length ≤ 2000000) (hn2 : ys.length ≤ 2000000) (ha : w.ownsRow B 46 5 va xs.length (xs.flatMap GenM.cells)) (hb : w.ownsRow B' 46 5 vb ys.length (ys.flatMap GenM.cells)) :
    Calls Tryz.prog 43 #[va, vb] w fun e w' => (∃ r : Bool, e = .returned (.bool r) ∧ (r = true ↔ xs = ys)) ∧ Below w.heap.size w w' := by
  obtain ⟨a, ca, rfl⟩ := own_slice ha
  obtain ⟨b, cb, rfl⟩ := own_slice hb
  by_cases hl : xs.length = ys.length
  · have HA := hide' ha
    have HZ := hide' hb
    have HLL := hide' hl
    rw [← hl] at hb ⊢
    clear ha hb hl
    go_enter Tryz.func43, Tryz.ntmps43
    go_wp2
    go_loopw [13] (fun si W => ∃ k : Nat, si = .int .i64 k ∧ k ≤ xs.length ∧ Hid (xs.take k = ys.take k) ∧ Hid (Below w.heap.size w W)) (fun si _ => xs.length - (intOf si).toNat)
    case atStart => exact ⟨0, rfl, Nat.zero_le _, rfl, Below.refl _ _⟩
    case round =>
      rename World => w2
      obtain ⟨k, rfl, hk, HTK, HB⟩ := hrel
      by_cases hlt : k < xs.length
      · have hlt2 : k < ys.length := by have := HLL.out; omega
        obtain ⟨bx, ox, hax, hx⟩ := elem_cells (f := GenM.cells) (sz := 5) (fun _ => rfl) HA.out k hlt (by decide)
        obtain ⟨bz, oz, haz, hz⟩ := elem_cells (f := GenM.cells) (sz := 5) (fun _ => rfl) HZ.out k hlt2 (by decide)
        subst hax haz
        have HNX : Hid (xs[k] = ys[k] → xs.take (k + 1) = ys.take (k + 1)) := fun e => take_next hlt hlt2 HTK.out e
        have HNE : Hid (xs[k] ≠ ys[k] → xs ≠ ys) := fun hne e => hne (by subst e; rfl)
        obtain ⟨L, hL⟩ : ∃ L, L = xs[k] := ⟨_, rfl⟩
        obtain ⟨R, hR⟩ : ∃ R, R = ys[k] := ⟨_, rfl⟩
        rw [← hL] at hx HNX HNE
        rw [← hR] at hz HNX HNE
        have e0 : w2.cell? ⟨bx, ox + k * 5, none⟩ = some (.string L.name) := (HB.out.cell (p := ⟨bx, ox + k * 5, none⟩) (World.block_lt_of_cell? w _ (hx 0 _ rfl))).trans (hx 0 _ rfl)
        have z0 : w2.cell? ⟨bz, oz + k * 5, none⟩ = some (.string R.name) := (HB.out.cell (p := ⟨bz, oz + k * 5, none⟩) (World.block_lt_of_cell? w _ (hz 0 _ rfl))).trans (hz 0 _ rfl)
        have e1 : w2.cell? ⟨bx, ox + k * 5 + 1, none⟩ = some (.int .i64 L.bus) := (HB.out.cell (p := ⟨bx, ox + k * 5 + 1, none⟩) (World.block_lt_of_cell? w _ (hx 1 _ rfl))).trans (hx 1 _ rfl)
        have z1 : w2.cell? ⟨bz, oz + k * 5 + 1, none⟩ = some (.int .i64 R.bus) := (HB.out.cell (p := ⟨bz, oz + k * 5 + 1, none⟩) (World.block_lt_of_cell? w _ (hz 1 _ rfl))).trans (hz 1 _ rfl)
        have e2 : w2.cell? ⟨bx, ox + k * 5 + 2, none⟩ = some (.int .i64 L.least) := (HB.out.cell (p := ⟨bx, ox + k * 5 + 2, none⟩) (World.block_lt_of_cell? w _ (hx 2 _ rfl))).trans (hx 2 _ rfl)
        have z2 : w2.cell? ⟨bz, oz + k * 5 + 2, none⟩ = some (.int .i64 R.least) := (HB.out.cell (p := ⟨bz, oz + k * 5 + 2, none⟩) (World.block_lt_of_cell? w _ (hz 2 _ rfl))).trans (hz 2 _ rfl)
        have e3 : w2.cell? ⟨bx, ox + k * 5 + 3, none⟩ = some (.int .i64 L.most) := (HB.out.cell (p := ⟨bx, ox + k * 5 + 3, none⟩) (World.block_lt_of_cell? w _ (hx 3 _ rfl))).trans (hx 3 _ rfl)
        have z3 : w2.cell? ⟨bz, oz + k * 5 + 3, none⟩ = some (.int .i64 R.most) := (HB.out.cell (p := ⟨bz, oz + k * 5 + 3, none⟩) (World.block_lt_of_cell? w _ (hz 3 _ rfl))).trans (hz 3 _ rfl)
        have e4 : w2.cell? ⟨bx, ox + k * 5 + 4, none⟩ = some (.int .i64 L.cost) := (HB.out.cell (p := ⟨bx, ox + k * 5 + 4, none⟩) (World.block_lt_of_cell? w _ (hx 4 _ rfl))).trans (hx 4 _ rfl)
        have z4 : w2.cell? ⟨bz, oz + k * 5 + 4, none⟩ = some (.int .i64 R.cost) := (HB.out.cell (p := ⟨bz, oz + k * 5 + 4, none⟩) (World.block_lt_of_cell? w _ (hz 4 _ rfl))).trans (hz 4 _ rfl)
        clear hx hz hL hR hlt2
        by_cases hLR : L = R
        · have HT2 := hide' (HNX.out hLR)
          subst hLR
          clear HNX HNE
          go_wp2
          go_region
          go_wp2
          exact ⟨⟨k + 1, by go_num, by omega, HT2, drewB HB.out⟩, by simp [intOf]; omega⟩
        · have HN2 := hide' (HNE.out hLR)
          clear HNX HNE
          by_cases h0 : L.name = R.name
          rotate_left
          · have n0 := text_ne h0
            go_wp2
            go_region
            go_wp2
            go_ret
            exact ⟨⟨false, rfl, fun h => (by cases h), fun h => absurd h HN2.out⟩, drewB HB.out⟩
          rw [h0] at e0
          by_cases h1 : L.bus = R.bus
          rotate_left
          · have n1 : (L.bus == R.bus) = false := beq_eq_false_iff_ne.2 h1
            go_wp2
            go_region
            go_wp2
            go_ret
            exact ⟨⟨false, rfl, fun h => (by cases h), fun h => absurd h HN2.out⟩, drewB HB.out⟩
          rw [h1] at e1
          by_cases h2 : L.least = R.least
          rotate_left
          · have n2 : (L.least == R.least) = false := beq_eq_false_iff_ne.2 h2
            go_wp2
            go_region
            go_wp2
            go_ret
            exact ⟨⟨false, rfl, fun h => (by cases h), fun h => absurd h HN2.out⟩, drewB HB.out⟩
          rw [h2] at e2
          by_cases h3 : L.most = R.most
          rotate_left
          · have n3 : (L.most == R.most) = false := beq_eq_false_iff_ne.2 h3
            go_wp2
            go_region
            go_wp2
            go_ret
            exact ⟨⟨false, rfl, fun h => (by cases h), fun h => absurd h HN2.out⟩, drewB HB.out⟩
          rw [h3] at e3
          by_cases h4 : L.cost = R.cost
          rotate_left
          · have n4 : (L.cost == R.cost) = false := beq_eq_false_iff_ne.2 h4
            go_wp2
            go_region
            go_wp2
            go_ret
            exact ⟨⟨false, rfl, fun h => (by cases h), fun h => absurd h HN2.out⟩, drewB HB.out⟩
          rw [h4] at e4
          exact absurd (by cases L; cases R; simp_all) hLR
      · have HEQ : Hid (xs = ys) := by
          have h1 := HTK.out
          have h2 := HLL.out
          rw [List.take_of_length_le (by omega), List.take_of_length_le (by omega)] at h1
          exact h1
        go_wp2
        go_ret
        exact ⟨⟨true, rfl, fun _ => HEQ.out, fun _ => rfl⟩, HB.out⟩
  · have hne : ((xs.length : Int) != (ys.length : Int)) = true := by simp; omega
    have HNE : Hid (¬ xs = ys) := fun e => hl (by rw [e])
    clear ha hb
    go_enter Tryz.func43, Tryz.ntmps43
    go_wp2
    go_ret
    exact ⟨⟨false, rfl, fun h => (by cases h), fun h => absurd h HNE.out⟩, Below.refl _ _⟩

set_option maxHeartbeats 4000000 in
set_option maxRecDepth 100000 in
theorem eqLoads2 (xs ys : List LoadM) (B B' : Nat) (va vb : Value) (w : World) (hn : xs.length ≤ 2000000) (hn2 : ys.length ≤ 2000000) (ha : w.ownsRow B 51 3 va xs.length (xs.flatMap LoadM.cells)) (hb : w.ownsRow B' 51 3 vb ys.length (ys.flatMap LoadM.cells)) :
    Calls Tryz.prog 44 #[va, vb] w fun e w' => (∃ r : Bool, e = .returned (.bool r) ∧ (r = true ↔ xs = ys)) ∧ Below w.heap.size w w' := by
  obtain ⟨a, ca, rfl⟩ := own_slice ha
  obtain ⟨b, cb, rfl⟩ := own_slice hb
  by_cases hl : xs.length = ys.length
  · have HA := hide' ha
    have HZ := hide' hb
    have HLL := hide' hl
    rw [← hl] at hb ⊢
    clear ha hb hl
    go_enter Tryz.func44, Tryz.ntmps44
    go_wp2
    go_loopw [13] (fun si W => ∃ k : Nat, si = .int .i64 k ∧ k ≤ xs.length ∧ Hid (xs.take k = ys.take k) ∧ Hid (Below w.heap.size w W)) (fun si _ => xs.length - (intOf si).toNat)
    case atStart => exact ⟨0, rfl, Nat.zero_le _, rfl, Below.refl _ _⟩
    case round =>
      rename World => w2
      obtain ⟨k, rfl, hk, HTK, HB⟩ := hrel
      by_cases hlt : k < xs.length
      · have hlt2 : k < ys.length := by have := HLL.out; omega
        obtain ⟨bx, ox, hax, hx⟩ := elem_cells (f := LoadM.cells) (sz := 3) (fun _ => rfl) HA.out k hlt (by decide)
        obtain ⟨bz, oz, haz, hz⟩ := elem_cells (f := LoadM.cells) (sz := 3) (fun _ => rfl) HZ.out k hlt2 (by decide)
        subst hax haz
        have HNX : Hid (xs[k] = ys[k] → xs.take (k + 1) = ys.take (k + 1)) := fun e => take_next hlt hlt2 HTK.out e
        have HNE : Hid (xs[k] ≠ ys[k] → xs ≠ ys) := fun hne e => hne (by subst e; rfl)
        obtain ⟨L, hL⟩ : ∃ L, L = xs[k] := ⟨_, rfl⟩
        obtain ⟨R, hR⟩ : ∃ R, R = ys[k] := ⟨_, rfl⟩
        rw [← hL] at hx HNX HNE
        rw [← hR] at hz HNX HNE
        have e0 : w2.cell? ⟨bx, ox + k * 3, none⟩ = some (.string L.name) := (HB.out.cell (p := ⟨bx, ox + k * 3, none⟩) (World.block_lt_of_cell? w _ (hx 0 _ rfl))).trans (hx 0 _ rfl)
        have z0 : w2.cell? ⟨bz, oz + k * 3, none⟩ = some (.string R.name) := (HB.out.cell (p := ⟨bz, oz + k * 3, none⟩) (World.block_lt_of_cell? w _ (hz 0 _ rfl))).trans (hz 0 _ rfl)
        have e1 : w2.cell? ⟨bx, ox + k * 3 + 1, none⟩ = some (.int .i64 L.bus) := (HB.out.cell (p := ⟨bx, ox + k * 3 + 1, none⟩) (World.block_lt_of_cell? w _ (hx 1 _ rfl))).trans (hx 1 _ rfl)
        have z1 : w2.cell? ⟨bz, oz + k * 3 + 1, none⟩ = some (.int .i64 R.bus) := (HB.out.cell (p := ⟨bz, oz + k * 3 + 1, none⟩) (World.block_lt_of_cell? w _ (hz 1 _ rfl))).trans (hz 1 _ rfl)
        have e2 : w2.cell? ⟨bx, ox + k * 3 + 2, none⟩ = some (.int .i64 L.power) := (HB.out.cell (p := ⟨bx, ox + k * 3 + 2, none⟩) (World.block_lt_of_cell? w _ (hx 2 _ rfl))).trans (hx 2 _ rfl)
        have z2 : w2.cell? ⟨bz, oz + k * 3 + 2, none⟩ = some (.int .i64 R.power) := (HB.out.cell (p := ⟨bz, oz + k * 3 + 2, none⟩) (World.block_lt_of_cell? w _ (hz 2 _ rfl))).trans (hz 2 _ rfl)
        clear hx hz hL hR hlt2
        by_cases hLR : L = R
        · have HT2 := hide' (HNX.out hLR)
          subst hLR
          clear HNX HNE
          go_wp2
          go_region
          go_wp2
          exact ⟨⟨k + 1, by go_num, by omega, HT2, drewB HB.out⟩, by simp [intOf]; omega⟩
        · have HN2 := hide' (HNE.out hLR)
          clear HNX HNE
          by_cases h0 : L.name = R.name
          rotate_left
          · have n0 := text_ne h0
            go_wp2
            go_region
            go_wp2
            go_ret
            exact ⟨⟨false, rfl, fun h => (by cases h), fun h => absurd h HN2.out⟩, drewB HB.out⟩
          rw [h0] at e0
          by_cases h1 : L.bus = R.bus
          rotate_left
          · have n1 : (L.bus == R.bus) = false := beq_eq_false_iff_ne.2 h1
            go_wp2
            go_region
            go_wp2
            go_ret
            exact ⟨⟨false, rfl, fun h => (by cases h), fun h => absurd h HN2.out⟩, drewB HB.out⟩
          rw [h1] at e1
          by_cases h2 : L.power = R.power
          rotate_left
          · have n2 : (L.power == R.power) = false := beq_eq_false_iff_ne.2 h2
            go_wp2
            go_region
            go_wp2
            go_ret
            exact ⟨⟨false, rfl, fun h => (by cases h), fun h => absurd h HN2.out⟩, drewB HB.out⟩
          rw [h2] at e2
          exact absurd (by cases L; cases R; simp_all) hLR
      · have HEQ : Hid (xs = ys) := by
          have h1 := HTK.out
          have h2 := HLL.out
          rw [List.take_of_length_le (by omega), List.take_of_length_le (by omega)] at h1
          exact h1
        go_wp2
        go_ret
        exact ⟨⟨true, rfl, fun _ => HEQ.out, fun _ => rfl⟩, HB.out⟩
  · have hne : ((xs.length : Int) != (ys.length : Int)) = true := by simp; omega
    have HNE : Hid (¬ xs = ys) := fun e => hl (by rw [e])
    clear ha hb
    go_enter Tryz.func44, Tryz.ntmps44
    go_wp2
    go_ret
    exact ⟨⟨false, rfl, fun h => (by cases h), fun h => absurd h HNE.out⟩, Below.refl _ _⟩

set_option maxHeartbeats 4000000 in
set_option maxRecDepth 100000 in
theorem eqTies2 (xs ys : List TieM) (B B' : Nat) (va vb : Value) (w : World) (hn : xs.length ≤ 2000000) (hn2 : ys.length ≤ 2000000) (ha : w.ownsRow B 56 4 va xs.length (xs.flatMap TieM.cells)) (hb : w.ownsRow B' 56 4 vb ys.length (ys.flatMap TieM.cells)) :
    Calls Tryz.prog 45 #[va, vb] w fun e w' => (∃ r : Bool, e = .returned (.bool r) ∧ (r = true ↔ xs = ys)) ∧ Below w.heap.size w w' := by
  obtain ⟨a, ca, rfl⟩ := own_slice ha
  obtain ⟨b, cb, rfl⟩ := own_slice hb
  by_cases hl : xs.length = ys.length
  · have HA := hide' ha
    have HZ := hide' hb
    have HLL := hide' hl
    rw [← hl] at hb ⊢
    clear ha hb hl
    go_enter Tryz.func45, Tryz.ntmps45
    go_wp2
    go_loopw [13] (fun si W => ∃ k : Nat, si = .int .i64 k ∧ k ≤ xs.length ∧ Hid (xs.take k = ys.take k) ∧ Hid (Below w.heap.size w W)) (fun si _ => xs.length - (intOf si).toNat)
    case atStart => exact ⟨0, rfl, Nat.zero_le _, rfl, Below.refl _ _⟩
    case round =>
      rename World => w2
      obtain ⟨k, rfl, hk, HTK, HB⟩ := hrel
      by_cases hlt : k < xs.length
      · have hlt2 : k < ys.length := by have := HLL.out; omega
        obtain ⟨bx, ox, hax, hx⟩ := elem_cells (f := TieM.cells) (sz := 4) (fun _ => rfl) HA.out k hlt (by decide)
        obtain ⟨bz, oz, haz, hz⟩ := elem_cells (f := TieM.cells) (sz := 4) (fun _ => rfl) HZ.out k hlt2 (by decide)
        subst hax haz
        have HNX : Hid (xs[k] = ys[k] → xs.take (k + 1) = ys.take (k + 1)) := fun e => take_next hlt hlt2 HTK.out e
        have HNE : Hid (xs[k] ≠ ys[k] → xs ≠ ys) := fun hne e => hne (by subst e; rfl)
        obtain ⟨L, hL⟩ : ∃ L, L = xs[k] := ⟨_, rfl⟩
        obtain ⟨R, hR⟩ : ∃ R, R = ys[k] := ⟨_, rfl⟩
        rw [← hL] at hx HNX HNE
        rw [← hR] at hz HNX HNE
        have e0 : w2.cell? ⟨bx, ox + k * 4, none⟩ = some (.string L.name) := (HB.out.cell (p := ⟨bx, ox + k * 4, none⟩) (World.block_lt_of_cell? w _ (hx 0 _ rfl))).trans (hx 0 _ rfl)
        have z0 : w2.cell? ⟨bz, oz + k * 4, none⟩ = some (.string R.name) := (HB.out.cell (p := ⟨bz, oz + k * 4, none⟩) (World.block_lt_of_cell? w _ (hz 0 _ rfl))).trans (hz 0 _ rfl)
        have e1 : w2.cell? ⟨bx, ox + k * 4 + 1, none⟩ = some (.int .i64 L.frm) := (HB.out.cell (p := ⟨bx, ox + k * 4 + 1, none⟩) (World.block_lt_of_cell? w _ (hx 1 _ rfl))).trans (hx 1 _ rfl)
        have z1 : w2.cell? ⟨bz, oz + k * 4 + 1, none⟩ = some (.int .i64 R.frm) := (HB.out.cell (p := ⟨bz, oz + k * 4 + 1, none⟩) (World.block_lt_of_cell? w _ (hz 1 _ rfl))).trans (hz 1 _ rfl)
        have e2 : w2.cell? ⟨bx, ox + k * 4 + 2, none⟩ = some (.int .i64 L.to) := (HB.out.cell (p := ⟨bx, ox + k * 4 + 2, none⟩) (World.block_lt_of_cell? w _ (hx 2 _ rfl))).trans (hx 2 _ rfl)
        have z2 : w2.cell? ⟨bz, oz + k * 4 + 2, none⟩ = some (.int .i64 R.to) := (HB.out.cell (p := ⟨bz, oz + k * 4 + 2, none⟩) (World.block_lt_of_cell? w _ (hz 2 _ rfl))).trans (hz 2 _ rfl)
        have e3 : w2.cell? ⟨bx, ox + k * 4 + 3, none⟩ = some (.bool L.closed) := (HB.out.cell (p := ⟨bx, ox + k * 4 + 3, none⟩) (World.block_lt_of_cell? w _ (hx 3 _ rfl))).trans (hx 3 _ rfl)
        have z3 : w2.cell? ⟨bz, oz + k * 4 + 3, none⟩ = some (.bool R.closed) := (HB.out.cell (p := ⟨bz, oz + k * 4 + 3, none⟩) (World.block_lt_of_cell? w _ (hz 3 _ rfl))).trans (hz 3 _ rfl)
        clear hx hz hL hR hlt2
        by_cases hLR : L = R
        · have HT2 := hide' (HNX.out hLR)
          subst hLR
          clear HNX HNE
          go_wp2
          go_region
          go_wp2
          exact ⟨⟨k + 1, by go_num, by omega, HT2, drewB HB.out⟩, by simp [intOf]; omega⟩
        · have HN2 := hide' (HNE.out hLR)
          clear HNX HNE
          by_cases h0 : L.name = R.name
          rotate_left
          · have n0 := text_ne h0
            go_wp2
            go_region
            go_wp2
            go_ret
            exact ⟨⟨false, rfl, fun h => (by cases h), fun h => absurd h HN2.out⟩, drewB HB.out⟩
          rw [h0] at e0
          by_cases h1 : L.frm = R.frm
          rotate_left
          · have n1 : (L.frm == R.frm) = false := beq_eq_false_iff_ne.2 h1
            go_wp2
            go_region
            go_wp2
            go_ret
            exact ⟨⟨false, rfl, fun h => (by cases h), fun h => absurd h HN2.out⟩, drewB HB.out⟩
          rw [h1] at e1
          by_cases h2 : L.to = R.to
          rotate_left
          · have n2 : (L.to == R.to) = false := beq_eq_false_iff_ne.2 h2
            go_wp2
            go_region
            go_wp2
            go_ret
            exact ⟨⟨false, rfl, fun h => (by cases h), fun h => absurd h HN2.out⟩, drewB HB.out⟩
          rw [h2] at e2
          by_cases h3 : L.closed = R.closed
          rotate_left
          · have n3 : (L.closed == R.closed) = false := beq_eq_false_iff_ne.2 h3
            go_wp2
            go_region
            go_wp2
            go_ret
            exact ⟨⟨false, rfl, fun h => (by cases h), fun h => absurd h HN2.out⟩, drewB HB.out⟩
          rw [h3] at e3
          exact absurd (by cases L; cases R; simp_all) hLR
      · have HEQ : Hid (xs = ys) := by
          have h1 := HTK.out
          have h2 := HLL.out
          rw [List.take_of_length_le (by omega), List.take_of_length_le (by omega)] at h1
          exact h1
        go_wp2
        go_ret
        exact ⟨⟨true, rfl, fun _ => HEQ.out, fun _ => rfl⟩, HB.out⟩
  · have hne : ((xs.length : Int) != (ys.length : Int)) = true := by simp; omega
    have HNE : Hid (¬ xs = ys) := fun e => hl (by rw [e])
    clear ha hb
    go_enter Tryz.func45, Tryz.ntmps45
    go_wp2
    go_ret
    exact ⟨⟨false, rfl, fun h => (by cases h), fun h => absurd h HNE.out⟩, Below.refl _ _⟩
end Go.Proofs.YtpbalclhdhjnoaaGreatDoor

namespace Go.Proofs.YtpbalclhdhjnoaaGreatDoor
open Go.RowKit Go.Shelf

/-- Two networks in their boxes. -/
structure Duo (W : World) (p q : Nat) (M N : NetM) (b1 l1 g1 d1 t1 b2 l2 g2 d2 t2 : Value) : Prop where
  hp : W.heap[p]? = some (.cells #[.string M.name, b1, l1, g1, d1, t1] 28 (0, 0))
  hq : W.heap[q]? = some (.cells #[.string N.name, b2, l2, g2, d2, t2] 28 (0, 0))
  o1 : Owns W 0 b1 l1 g1 d1 t1 M
  o2 : Owns W 0 b2 l2 g2 d2 t2 N
theorem ownsL {W W' : World} {B : Nat} {N : NetM} {b l g d t : Value} (h : Owns W B b l g d t N) (hb : Below W.heap.size W W') : Owns W' B b l g d t N :=
  ⟨own_below h.hb hb (Nat.le_refl _), own_below h.hl hb (Nat.le_refl _), own_below h.hg hb (Nat.le_refl _), own_below h.hd hb (Nat.le_refl _), own_below h.ht hb (Nat.le_refl _)⟩
theorem ownZ {w : World} {B e sz n : Nat} {v : Value} {xs : List Value} (h : w.ownsRow B e sz v n xs) : w.ownsRow 0 e sz v n xs := by
  refine ⟨h.1, ?_⟩
  rcases h.2 with h2 | ⟨g, cap, cur, h3, _, h5⟩
  · exact .inl h2
  · exact .inr ⟨g, cap, cur, h3, Nat.zero_le _, h5⟩
theorem ownsZ {W : World} {B : Nat} {N : NetM} {b l g d t : Value} (h : Owns W B b l g d t N) : Owns W 0 b l g d t N := ⟨ownZ h.hb, ownZ h.hl, ownZ h.hg, ownZ h.hd, ownZ h.ht⟩
theorem Duo.later {W W' : World} {p q : Nat} {M N : NetM} {b1 l1 g1 d1 t1 b2 l2 g2 d2 t2 : Value} (h : Duo W p q M N b1 l1 g1 d1 t1 b2 l2 g2 d2 t2) (hb : Below W.heap.size W W') : Duo W' p q M N b1 l1 g1 d1 t1 b2 l2 g2 d2 t2 :=
  ⟨(hb.block p (Array.getElem?_eq_some_iff.1 h.hp).1).trans h.hp, (hb.block q (Array.getElem?_eq_some_iff.1 h.hq).1).trans h.hq, ownsL h.o1 hb, ownsL h.o2 hb⟩
def lens2 (N : NetM) : Prop := N.buses.length ≤ 2000000 ∧ N.lines.length ≤ 2000000 ∧ N.gens.length ≤ 2000000 ∧ N.loads.length ≤ 2000000 ∧ N.ties.length ≤ 2000000
theorem texts_iff (xs ys : List ByteArray) (B B' : Nat) (va vb : Value) (w : World) (hn : xs.length ≤ 2000000) (hn2 : ys.length ≤ 2000000) (ha : w.ownsRow B 9 1 va xs.length (xs.map Value.string)) (hb : w.ownsRow B' 9 1 vb ys.length (ys.map Value.string)) :
    Calls Tryz.prog 41 #[va, vb] w fun e w' => (∃ r : Bool, e = .returned (.bool r) ∧ (r = true ↔ xs = ys)) ∧ Below w.heap.size w w' :=
  (eqTexts2 xs ys B B' va vb w hn hn2 ha hb).mono fun _ _ h => ⟨⟨_, h.1, decide_eq_true_iff⟩, h.2⟩

set_option maxHeartbeats 4000000 in
set_option maxRecDepth 100000 in
theorem same_iff (M N : NetM) (B1 B2 : Nat) (b1 l1 g1 d1 t1 b2 l2 g2 d2 t2 : Value) (w : World) (hM : lens2 M) (hN : lens2 N) (h1 : Owns w B1 b1 l1 g1 d1 t1 M) (h2 : Owns w B2 b2 l2 g2 d2 t2 N) :
    Calls Tryz.prog 32 #[.agg #[.string M.name, b1, l1, g1, d1, t1], .agg #[.string N.name, b2, l2, g2, d2, t2]] w fun e w' => (∃ r : Bool, e = .returned (.bool r) ∧ (r = true ↔ M = N)) ∧ Below w.heap.size w w' := by
  obtain ⟨m1, m2, m3, m4, m5⟩ := hM
  obtain ⟨n1, n2, n3, n4, n5⟩ := hN
  obtain ⟨W, hW⟩ : ∃ W, W = (w.alloc (.cells #[.string M.name, b1, l1, g1, d1, t1] 28)).alloc (.cells #[.string N.name, b2, l2, g2, d2, t2] 28) := ⟨_, rfl⟩
  have hbW : Below w.heap.size w W := by rw [hW]; exact ((Below.refl _ w).alloc (Nat.le_refl _) _).alloc (by simp) _
  have hT : Duo W w.heap.size (w.heap.size + 1) M N b1 l1 g1 d1 t1 b2 l2 g2 d2 t2 := by
    refine ⟨?_, ?_, ownsL (ownsZ h1) hbW, ownsL (ownsZ h2) hbW⟩
    · rw [hW]
      exact (Below.heap_alloc _ _ _ (by simp)).trans (World.alloc_heap_new w _)
    · rw [hW]
      have := World.alloc_heap_new (w.alloc (.cells #[.string M.name, b1, l1, g1, d1, t1] 28)) (.cells #[.string N.name, b2, l2, g2, d2, t2] 28)
      rwa [World.size_alloc] at this
  have T0 := hide' hT
  have B0 := hide' hbW
  have HW := hide' hW
  clear h1 h2 hT hbW hW
  by_cases e0 : M.name = N.name
  rotate_left
  · have n0 := text_ne e0
    have HNE : Hid (¬ M = N) := fun e => e0 (by rw [e])
    clear e0
    go_enter Tryz.func32, Tryz.ntmps32
    go_wp2
    go_ret
    rw [← HW.out]
    exact ⟨⟨false, rfl, fun h => (by cases h), fun h => absurd h HNE.out⟩, B0.out⟩
  have HE0 := hide' e0
  rw [e0] at HW ⊢
  clear e0
  go_enter Tryz.func32, Tryz.ntmps32
  go_wp2_with fail
  rw [← HW.out]
  refine (texts_iff M.buses N.buses 0 0 _ _ W m1 n1 T0.out.o1.hb T0.out.o2.hb).mono ?_
  rintro e w1 ⟨⟨r, rfl, hr⟩, hb⟩
  have T1 := hide' (T0.out.later hb)
  have B1 := hide' (B0.out.trans (hb.mono B0.out.size))
  have E1 := hide' hr
  clear hb hr T0 B0
  clear HW
  cases r with
  | false =>
    have HNE : Hid (¬ M = N) := fun e => by
      have := E1.out.2 (by rw [e])
      cases this
    go_wp2
    go_ret
    exact ⟨⟨false, rfl, fun h => (by cases h), fun h => absurd h HNE.out⟩, B1.out⟩
  | true =>
  obtain ⟨x1, x2, x3, x4, x5⟩ := cells32 T1.out.hp
  obtain ⟨y1, y2, y3, y4, y5⟩ := cells32 T1.out.hq
  go_wp2_with fail
  clear x1 x2 x3 x4 x5 y1 y2 y3 y4 y5
  refine (eqLines2 M.lines N.lines 0 0 _ _ w1 m2 n2 T1.out.o1.hl T1.out.o2.hl).mono ?_
  rintro e w2 ⟨⟨r, rfl, hr⟩, hb⟩
  have T2 := hide' (T1.out.later hb)
  have B2 := hide' (B1.out.trans (hb.mono B1.out.size))
  have E2 := hide' hr
  clear hb hr T1 B1
  cases r with
  | false =>
    have HNE : Hid (¬ M = N) := fun e => by
      have := E2.out.2 (by rw [e])
      cases this
    go_wp2
    go_ret
    exact ⟨⟨false, rfl, fun h => (by cases h), fun h => absurd h HNE.out⟩, B2.out⟩
  | true =>
  obtain ⟨x1, x2, x3, x4, x5⟩ := cells32 T2.out.hp
  obtain ⟨y1, y2, y3, y4, y5⟩ := cells32 T2.out.hq
  go_wp2_with fail
  clear x1 x2 x3 x4 x5 y1 y2 y3 y4 y5
  refine (eqGens2 M.gens N.gens 0 0 _ _ w2 m3 n3 T2.out.o1.hg T2.out.o2.hg).mono ?_
  rintro e w3 ⟨⟨r, rfl, hr⟩, hb⟩
  have T3 := hide' (T2.out.later hb)
  have B3 := hide' (B2.out.trans (hb.mono B2.out.size))
  have E3 := hide' hr
  clear hb hr T2 B2
  cases r with
  | false =>
    have HNE : Hid (¬ M = N) := fun e => by
      have := E3.out.2 (by rw [e])
      cases this
    go_wp2
    go_ret
    exact ⟨⟨false, rfl, fun h => (by cases h), fun h => absurd h HNE.out⟩, B3.out⟩
  | true =>
  obtain ⟨x1, x2, x3, x4, x5⟩ := cells32 T3.out.hp
  obtain ⟨y1, y2, y3, y4, y5⟩ := cells32 T3.out.hq
  go_wp2_with fail
  clear x1 x2 x3 x4 x5 y1 y2 y3 y4 y5
  refine (eqLoads2 M.loads N.loads 0 0 _ _ w3 m4 n4 T3.out.o1.hd T3.out.o2.hd).mono ?_
  rintro e w4 ⟨⟨r, rfl, hr⟩, hb⟩
  have T4 := hide' (T3.out.later hb)
  have B4 := hide' (B3.out.trans (hb.mono B3.out.size))
  have E4 := hide' hr
  clear hb hr T3 B3
  cases r with
  | false =>
    have HNE : Hid (¬ M = N) := fun e => by
      have := E4.out.2 (by rw [e])
      cases this
    go_wp2
    go_ret
    exact ⟨⟨false, rfl, fun h => (by cases h), fun h => absurd h HNE.out⟩, B4.out⟩
  | true =>
  obtain ⟨x1, x2, x3, x4, x5⟩ := cells32 T4.out.hp
  obtain ⟨y1, y2, y3, y4, y5⟩ := cells32 T4.out.hq
  go_wp2_with fail
  clear x1 x2 x3 x4 x5 y1 y2 y3 y4 y5
  refine (eqTies2 M.ties N.ties 0 0 _ _ w4 m5 n5 T4.out.o1.ht T4.out.o2.ht).mono ?_
  rintro e w5 ⟨⟨r, rfl, hr⟩, hb⟩
  have T5 := hide' (T4.out.later hb)
  have B5 := hide' (B4.out.trans (hb.mono B4.out.size))
  have E5 := hide' hr
  clear hb hr T4 B4
  go_wp2
  go_ret
  refine ⟨⟨r, rfl, fun h => ?_, fun h => E5.out.2 (by rw [h])⟩, B5.out⟩
  have a0 := HE0.out
  have a1 := E1.out.1 trivial
  have a2 := E2.out.1 trivial
  have a3 := E3.out.1 trivial
  have a4 := E4.out.1 trivial
  have a5 := E5.out.1 h
  cases M
  cases N
  simp_all
end Go.Proofs.YtpbalclhdhjnoaaGreatDoor
