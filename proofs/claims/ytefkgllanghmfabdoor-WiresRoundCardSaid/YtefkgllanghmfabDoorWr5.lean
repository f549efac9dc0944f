/- Two networks that are the same data are told to be the same, by the program's own equality. -/
import Derived.Test.YtefkgllanghmfabDoorWr4
namespace Go.Proofs.YtefkgllanghmfabDoor
open Go.RowKit Go.Shelf

theorem below_drew2 {B : Nat} {a w : World} (h : Below B a w) : Below B a w.drew := ⟨h.os, h.tape, h.output, h.size, h.block⟩
set_option maxHeartbeats 2000000 in
set_option maxRecDepth 100000 in
theorem eqTexts (xs : List ByteArray) (B B' : Nat) (va vb : Value) (w : World) (hn : xs.length ≤ 1000) (ha : w.ownsRow B 9 1 va xs.length (xs.map Value.string)) (hb : w.ownsRow B' 9 1 vb xs.length (xs.map Value.string)) :
    Calls Tryd.prog 20 #[va, vb] w fun e w' => e = .returned (.bool true) ∧ Below w.heap.size w w' := by
  obtain ⟨a, ca, rfl⟩ := own_slice ha
  obtain ⟨b, cb, rfl⟩ := own_slice hb
  have HA := hide' ha
  have HZ := hide' hb
  clear ha hb
  go_enter Tryd.func20, Tryd.ntmps20
  go_wp2
  go_loopw [13] (fun si W => ∃ k : Nat, si = .int .i64 k ∧ k ≤ xs.length ∧ Hid (Below w.heap.size w W)) (fun si _ => xs.length - (intOf si).toNat)
  case atStart => exact ⟨0, rfl, Nat.zero_le _, Below.refl _ _⟩
  case round =>
    rename World => w2
    obtain ⟨k, rfl, hk, HB⟩ := hrel
    by_cases hlt : k < xs.length
    · obtain ⟨bx, ox, rfl, hx⟩ := bus_cells HA.out (by omega)
      obtain ⟨bz, oz, rfl, hz⟩ := bus_cells HZ.out (by omega)
      have e0 := (HB.out.cell (p := ⟨bx, ox + k, none⟩) (World.block_lt_of_cell? w _ (hx k hlt))).trans (hx k hlt)
      have z0 := (HB.out.cell (p := ⟨bz, oz + k, none⟩) (World.block_lt_of_cell? w _ (hz k hlt))).trans (hz k hlt)
      obtain ⟨x, hxe⟩ : ∃ x, x = xs[k] := ⟨_, rfl⟩
      rw [← hxe] at e0 z0
      clear hx hz hxe
      go_wp2
      go_region
      go_wp2
      exact ⟨⟨k + 1, by go_num, by omega, below_drew2 HB.out⟩, by simp [intOf]; omega⟩
    · go_wp2
      go_ret
      exact ⟨rfl, HB.out⟩

set_option maxHeartbeats 2000000 in
set_option maxRecDepth 100000 in
theorem eqLines (xs : List LineM) (B B' : Nat) (va vb : Value) (w : World) (hn : xs.length ≤ 1000) (ha : w.ownsRow B 48 5 va xs.length (xs.flatMap LineM.cells)) (hb : w.ownsRow B' 48 5 vb xs.length (xs.flatMap LineM.cells)) :
    Calls Tryd.prog 21 #[va, vb] w fun e w' => e = .returned (.bool true) ∧ Below w.heap.size w w' := by
  obtain ⟨a, ca, rfl⟩ := own_slice ha
  obtain ⟨b, cb, rfl⟩ := own_slice hb
  have HA := hide' ha
  have HZ := hide' hb
  clear ha hb
  go_enter Tryd.func21, Tryd.ntmps21
  go_wp2
  go_loopw [13] (fun si W => ∃ k : Nat, si = .int .i64 k ∧ k ≤ xs.length ∧ Hid (Below w.heap.size w W)) (fun si _ => xs.length - (intOf si).toNat)
  case atStart => exact ⟨0, rfl, Nat.zero_le _, Below.refl _ _⟩
  case round =>
    rename World => w2
    obtain ⟨k, rfl, hk, HB⟩ := hrel
    by_cases hlt : k < xs.length
    · obtain ⟨bx, ox, rfl, hx⟩ := elem_cells (f := LineM.cells) (sz := 5) (fun _ => rfl) HA.out k hlt (by decide)
      obtain ⟨bz, oz, rfl, hz⟩ := elem_cells (f := LineM.cells) (sz := 5) (fun _ => rfl) HZ.out k hlt (by decide)
      obtain ⟨L, hL⟩ : ∃ L, L = xs[k] := ⟨_, rfl⟩
      rw [← hL] at hx hz
      have e0 : w2.cell? ⟨bx, ox + k * 5, none⟩ = some (.string L.name) := (HB.out.cell (p := ⟨bx, ox + k * 5, none⟩) (World.block_lt_of_cell? w _ (hx 0 _ rfl))).trans (hx 0 _ rfl)
      have z0 : w2.cell? ⟨bz, oz + k * 5, none⟩ = some (.string L.name) := (HB.out.cell (p := ⟨bz, oz + k * 5, none⟩) (World.block_lt_of_cell? w _ (hz 0 _ rfl))).trans (hz 0 _ rfl)
      have e1 : w2.cell? ⟨bx, ox + k * 5 + 1, none⟩ = some (.int .i64 L.frm) := (HB.out.cell (p := ⟨bx, ox + k * 5 + 1, none⟩) (World.block_lt_of_cell? w _ (hx 1 _ rfl))).trans (hx 1 _ rfl)
      have z1 : w2.cell? ⟨bz, oz + k * 5 + 1, none⟩ = some (.int .i64 L.frm) := (HB.out.cell (p := ⟨bz, oz + k * 5 + 1, none⟩) (World.block_lt_of_cell? w _ (hz 1 _ rfl))).trans (hz 1 _ rfl)
      have e2 : w2.cell? ⟨bx, ox + k * 5 + 2, none⟩ = some (.int .i64 L.to) := (HB.out.cell (p := ⟨bx, ox + k * 5 + 2, none⟩) (World.block_lt_of_cell? w _ (hx 2 _ rfl))).trans (hx 2 _ rfl)
      have z2 : w2.cell? ⟨bz, oz + k * 5 + 2, none⟩ = some (.int .i64 L.to) := (HB.out.cell (p := ⟨bz, oz + k * 5 + 2, none⟩) (World.block_lt_of_cell? w _ (hz 2 _ rfl))).trans (hz 2 _ rfl)
      have e3 : w2.cell? ⟨bx, ox + k * 5 + 3, none⟩ = some (.int .i64 L.worth) := (HB.out.cell (p := ⟨bx, ox + k * 5 + 3, none⟩) (World.block_lt_of_cell? w _ (hx 3 _ rfl))).trans (hx 3 _ rfl)
      have z3 : w2.cell? ⟨bz, oz + k * 5 + 3, none⟩ = some (.int .i64 L.worth) := (HB.out.cell (p := ⟨bz, oz + k * 5 + 3, none⟩) (World.block_lt_of_cell? w _ (hz 3 _ rfl))).trans (hz 3 _ rfl)
      have e4 : w2.cell? ⟨bx, ox + k * 5 + 4, none⟩ = some (.int .i64 L.limit) := (HB.out.cell (p := ⟨bx, ox + k * 5 + 4, none⟩) (World.block_lt_of_cell? w _ (hx 4 _ rfl))).trans (hx 4 _ rfl)
      have z4 : w2.cell? ⟨bz, oz + k * 5 + 4, none⟩ = some (.int .i64 L.limit) := (HB.out.cell (p := ⟨bz, oz + k * 5 + 4, none⟩) (World.block_lt_of_cell? w _ (hz 4 _ rfl))).trans (hz 4 _ rfl)
      clear hx hz hL
      go_wp2
      go_region
      go_wp2
      exact ⟨⟨k + 1, by go_num, by omega, below_drew2 HB.out⟩, by simp [intOf]; omega⟩
    · go_wp2
      go_ret
      exact ⟨rfl, HB.out⟩

set_option maxHeartbeats 800000 in
theorem eqGens0 (a b : Option Addr) (ca cb : Nat) (w : World) :
    Calls Tryd.prog 22 #[.slice a 0 ca, .slice b 0 cb] w fun e w' => e = .returned (.bool true) ∧ Below w.heap.size w w' := by
  go_enter Tryd.func22, Tryd.ntmps22
  go_wp2
  go_loopw [13] (fun si W => si = .int .i64 0 ∧ W = w) (fun _ _ => 0)
  case atStart => exact ⟨rfl, rfl⟩
  case round =>
    obtain ⟨rfl, rfl⟩ := hrel
    go_wp2
    go_ret
    exact ⟨rfl, Below.refl _ _⟩

set_option maxHeartbeats 800000 in
theorem eqLoads0 (a b : Option Addr) (ca cb : Nat) (w : World) :
    Calls Tryd.prog 23 #[.slice a 0 ca, .slice b 0 cb] w fun e w' => e = .returned (.bool true) ∧ Below w.heap.size w w' := by
  go_enter Tryd.func23, Tryd.ntmps23
  go_wp2
  go_loopw [13] (fun si W => si = .int .i64 0 ∧ W = w) (fun _ _ => 0)
  case atStart => exact ⟨rfl, rfl⟩
  case round =>
    obtain ⟨rfl, rfl⟩ := hrel
    go_wp2
    go_ret
    exact ⟨rfl, Below.refl _ _⟩

set_option maxHeartbeats 2000000 in
set_option maxRecDepth 100000 in
theorem eqTies (xs : List TieM) (B B' : Nat) (va vb : Value) (w : World) (hn : xs.length ≤ 1000) (ha : w.ownsRow B 52 4 va xs.length (xs.flatMap TieM.cells)) (hb : w.ownsRow B' 52 4 vb xs.length (xs.flatMap TieM.cells)) :
    Calls Tryd.prog 24 #[va, vb] w fun e w' => e = .returned (.bool true) ∧ Below w.heap.size w w' := by
  obtain ⟨a, ca, rfl⟩ := own_slice ha
  obtain ⟨b, cb, rfl⟩ := own_slice hb
  have HA := hide' ha
  have HZ := hide' hb
  clear ha hb
  go_enter Tryd.func24, Tryd.ntmps24
  go_wp2
  go_loopw [13] (fun si W => ∃ k : Nat, si = .int .i64 k ∧ k ≤ xs.length ∧ Hid (Below w.heap.size w W)) (fun si _ => xs.length - (intOf si).toNat)
  case atStart => exact ⟨0, rfl, Nat.zero_le _, Below.refl _ _⟩
  case round =>
    rename World => w2
    obtain ⟨k, rfl, hk, HB⟩ := hrel
    by_cases hlt : k < xs.length
    · obtain ⟨bx, ox, rfl, hx⟩ := elem_cells (f := TieM.cells) (sz := 4) (fun _ => rfl) HA.out k hlt (by decide)
      obtain ⟨bz, oz, rfl, hz⟩ := elem_cells (f := TieM.cells) (sz := 4) (fun _ => rfl) HZ.out k hlt (by decide)
      obtain ⟨L, hL⟩ : ∃ L, L = xs[k] := ⟨_, rfl⟩
      rw [← hL] at hx hz
      have e0 : w2.cell? ⟨bx, ox + k * 4, none⟩ = some (.string L.name) := (HB.out.cell (p := ⟨bx, ox + k * 4, none⟩) (World.block_lt_of_cell? w _ (hx 0 _ rfl))).trans (hx 0 _ rfl)
      have z0 : w2.cell? ⟨bz, oz + k * 4, none⟩ = some (.string L.name) := (HB.out.cell (p := ⟨bz, oz + k * 4, none⟩) (World.block_lt_of_cell? w _ (hz 0 _ rfl))).trans (hz 0 _ rfl)
      have e1 : w2.cell? ⟨bx, ox + k * 4 + 1, none⟩ = some (.int .i64 L.frm) := (HB.out.cell (p := ⟨bx, ox + k * 4 + 1, none⟩) (World.block_lt_of_cell? w _ (hx 1 _ rfl))).trans (hx 1 _ rfl)
      have z1 : w2.cell? ⟨bz, oz + k * 4 + 1, none⟩ = some (.int .i64 L.frm) := (HB.out.cell (p := ⟨bz, oz + k * 4 + 1, none⟩) (World.block_lt_of_cell? w _ (hz 1 _ rfl))).trans (hz 1 _ rfl)
      have e2 : w2.cell? ⟨bx, ox + k * 4 + 2, none⟩ = some (.int .i64 L.to) := (HB.out.cell (p := ⟨bx, ox + k * 4 + 2, none⟩) (World.block_lt_of_cell? w _ (hx 2 _ rfl))).trans (hx 2 _ rfl)
      have z2 : w2.cell? ⟨bz, oz + k * 4 + 2, none⟩ = some (.int .i64 L.to) := (HB.out.cell (p := ⟨bz, oz + k * 4 + 2, none⟩) (World.block_lt_of_cell? w _ (hz 2 _ rfl))).trans (hz 2 _ rfl)
      have e3 : w2.cell? ⟨bx, ox + k * 4 + 3, none⟩ = some (.bool L.closed) := (HB.out.cell (p := ⟨bx, ox + k * 4 + 3, none⟩) (World.block_lt_of_cell? w _ (hx 3 _ rfl))).trans (hx 3 _ rfl)
      have z3 : w2.cell? ⟨bz, oz + k * 4 + 3, none⟩ = some (.bool L.closed) := (HB.out.cell (p := ⟨bz, oz + k * 4 + 3, none⟩) (World.block_lt_of_cell? w _ (hz 3 _ rfl))).trans (hz 3 _ rfl)
      clear hx hz hL
      go_wp2
      go_region
      go_wp2
      exact ⟨⟨k + 1, by go_num, by omega, below_drew2 HB.out⟩, by simp [intOf]; omega⟩
    · go_wp2
      go_ret
      exact ⟨rfl, HB.out⟩
end Go.Proofs.YtefkgllanghmfabDoor
