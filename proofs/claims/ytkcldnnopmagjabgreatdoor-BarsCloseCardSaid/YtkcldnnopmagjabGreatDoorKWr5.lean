/- Two networks that are the same data are told to be the same, by the program's own equality. -/
import Derived.Test.YtkcldnnopmagjabGreatDoorKWr4
import Derived.Test.YtkcldnnopmagjabGreatDoorKSh1
import Derived.Test.YtkcldnnopmagjabGreatDoorKD8
namespace Go.Proofs.YtkcldnnopmagjabGreatDoor
open Go.RowKit Go.Shelf

theorem below_drew2 {B : Nat} {a w : World} (h : Below B a w) : Below B a w.drew := ⟨h.os, h.tape, h.output, h.size, h.block⟩
set_option maxHeartbeats 2000000 in
set_option maxRecDepth 100000 in
theorem eqTexts (xs : List ByteArray) (B B' : Nat) (va vb : Value) (w : World) (hn : xs.length ≤ 1000) (ha : w.ownsRow B 9 1 va xs.length (xs.map Value.string)) (hb : w.ownsRow B' 9 1 vb xs.length (xs.map Value.string)) :
    Calls Tryz.prog 54 #[va, vb] w fun e w' => e = .returned (.bool true) ∧ Below w.heap.size w w' := by
  obtain ⟨a, ca, rfl⟩ := own_slice ha
  obtain ⟨b, cb, rfl⟩ := own_slice hb
  have HA := hide' ha
  have HZ := hide' hb
  clear ha hb
  go_enter Tryz.func54, Tryz.ntmps54
  go_wp2
  go_loopw [13] (fun si W => ∃ k : Nat, si = .int .i64 k ∧ k ≤ xs.length ∧ Hid (Below w.heap.size w W)) (fun si _ => xs.length - (intOf si).toNat)
  case atStart => exact ⟨0, rfl, Nat.zero_le _, Below.refl _ _⟩
  case round =>
    rename World => w2
    obtain ⟨k, rfl, hk, HB⟩ := hrel
    by_cases hlt : k < xs.length
    · obtain ⟨bx, ox, rfl, hx⟩ := bus_cells HA.out (by omega)
      obtain ⟨bz, oz, rfl, hz⟩ := bus_cells HZ.out (by omega)
      have e0 := (HB.out.cell (p := ⟨bx, ox + k, none⟩) (World.block_lt_of_cell? w _ (hx k hlt))).trans (hx k hlt)
      have z0 := (HB.out.cell (p := ⟨bz, oz + k, none⟩) (World.block_lt_of_cell? w _ (hz k hlt))).trans (hz k hlt)
      obtain ⟨x, hxe⟩ : ∃ x, x = xs[k] := ⟨_, rfl⟩
      rw [← hxe] at e0 z0
      clear hx hz hxe
      go_wp2
      go_region
      go_wp2
      exact ⟨⟨k + 1, by go_num, by omega, below_drew2 HB.out⟩, by simp [intOf]; omega⟩
    · go_wp2
      go_ret
      exact ⟨rfl, HB.out⟩

set_option maxHeartbeats 2000000 in
set_option maxRecDepth 100000 in
theorem eqLines (xs : List LineM) (B B' : Nat) (va vb : Value) (w : World) (hn : xs.length ≤ 1000) (ha : w.ownsRow B 70 5 va xs.length (xs.flatMap LineM.cells)) (hb : w.ownsRow B' 70 5 vb xs.length (xs.flatMap LineM.cells)) :
    Calls Tryz.prog 55 #[va, vb] w fun e w' => e = .returned (.bool true) ∧ Below w.heap.size w w' := by
  obtain ⟨a, ca, rfl⟩ := own_slice ha
  obtain ⟨b, cb, rfl⟩ := own_slice hb
  have HA := hide' ha
  have HZ := hide' hb
  clear ha hb
  go_enter Tryz.func55, Tryz.ntmps55
  go_wp2
  go_loopw [13] (fun si W => ∃ k : Nat, si = .int .i64 k ∧ k ≤ xs.length ∧ Hid (Below w.heap.size w W)) (fun si _ => xs.length - (intOf si).toNat)
  case atStart => exact ⟨0, rfl, Nat.zero_le _, Below.refl _ _⟩
  case round =>
    rename World => w2
    obtain ⟨k, rfl, hk, HB⟩ := hrel
    by_cases hlt : k < xs.length
    · obtain ⟨bx, ox, rfl, hx⟩ := elem_cells (f := LineM.cells) (sz := 5) (fun _ => rfl) HA.out k hlt (by decide)
      obtain ⟨bz, oz, rfl, hz⟩ := elem_cells (f := LineM.cells) (sz := 5) (fun _ => rfl) HZ.out k hlt (by decide)
      obtain ⟨L, hL⟩ : ∃ L, L = xs[k] := ⟨_, rfl⟩
      rw [← hL] at hx hz
      have e0 : w2.cell? ⟨bx, ox + k * 5, none⟩ = some (.string L.name) := (HB.out.cell (p := ⟨bx, ox + k * 5, none⟩) (World.block_lt_of_cell? w _ (hx 0 _ rfl))).trans (hx 0 _ rfl)
      have z0 : w2.cell? ⟨bz, oz + k * 5, none⟩ = some (.string L.name) := (HB.out.cell (p := ⟨bz, oz + k * 5, none⟩) (World.block_lt_of_cell? w _ (hz 0 _ rfl))).trans (hz 0 _ rfl)
      have e1 : w2.cell? ⟨bx, ox + k * 5 + 1, none⟩ = some (.int .i64 L.frm) := (HB.out.cell (p := ⟨bx, ox + k * 5 + 1, none⟩) (World.block_lt_of_cell? w _ (hx 1 _ rfl))).trans (hx 1 _ rfl)
      have z1 : w2.cell? ⟨bz, oz + k * 5 + 1, none⟩ = some (.int .i64 L.frm) := (HB.out.cell (p := ⟨bz, oz + k * 5 + 1, none⟩) (World.block_lt_of_cell? w _ (hz 1 _ rfl))).trans (hz 1 _ rfl)
      have e2 : w2.cell? ⟨bx, ox + k * 5 + 2, none⟩ = some (.int .i64 L.to) := (HB.out.cell (p := ⟨bx, ox + k * 5 + 2, none⟩) (World.block_lt_of_cell? w _ (hx 2 _ rfl))).trans (hx 2 _ rfl)
      have z2 : w2.cell? ⟨bz, oz + k * 5 + 2, none⟩ = some (.int .i64 L.to) := (HB.out.cell (p := ⟨bz, oz + k * 5 + 2, none⟩) (World.block_lt_of_cell? w _ (hz 2 _ rfl))).trans (hz 2 _ rfl)
      have e3 : w2.cell? ⟨bx, ox + k * 5 + 3, none⟩ = some (.int .i64 L.worth) := (HB.out.cell (p := ⟨bx, ox + k * 5 + 3, none⟩) (World.block_lt_of_cell? w _ (hx 3 _ rfl))).trans (hx 3 _ rfl)
      have z3 : w2.cell? ⟨bz, oz + k * 5 + 3, none⟩ = some (.int .i64 L.worth) := (HB.out.cell (p := ⟨bz, oz + k * 5 + 3, none⟩) (World.block_lt_of_cell? w _ (hz 3 _ rfl))).trans (hz 3 _ rfl)
      have e4 : w2.cell? ⟨bx, ox + k * 5 + 4, none⟩ = some (.int .i64 L.limit) := (HB.out.cell (p := ⟨bx, ox + k * 5 + 4, none⟩) (World.block_lt_of_cell? w _ (hx 4 _ rfl))).trans (hx 4 _ rfl)
      have z4 : w2.cell? ⟨bz, oz + k * 5 + 4, none⟩ = some (.int .i64 L.limit) := (HB.out.cell (p := ⟨bz, oz + k * 5 + 4, none⟩) (World.block_lt_of_cell? w _ (hz 4 _ rfl))).trans (hz 4 _ rfl)
      clear hx hz hL
      go_wp2
      go_region
      go_wp2
      exact ⟨⟨k + 1, by go_num, by omega, below_drew2 HB.out⟩, by simp [intOf]; omega⟩
    · go_wp2
      go_ret
      exact ⟨rfl, HB.out⟩

set_option maxHeartbeats 800000 in
theorem eqGens0 (a b : Option Addr) (ca cb : Nat) (w : World) :
    Calls Tryz.prog 56 #[.slice a 0 ca, .slice b 0 cb] w fun e w' => e = .returned (.bool true) ∧ Below w.heap.size w w' := by
  go_enter Tryz.func56, Tryz.ntmps56
  go_wp2
  go_loopw [13] (fun si W => si = .int .i64 0 ∧ W = w) (fun _ _ => 0)
  case atStart => exact ⟨rfl, rfl⟩
  case round =>
    obtain ⟨rfl, rfl⟩ := hrel
    go_wp2
    go_ret
    exact ⟨rfl, Below.refl _ _⟩

set_option maxHeartbeats 800000 in
theorem eqLoads0 (a b : Option Addr) (ca cb : Nat) (w : World) :
    Calls Tryz.prog 57 #[.slice a 0 ca, .slice b 0 cb] w fun e w' => e = .returned (.bool true) ∧ Below w.heap.size w w' := by
  go_enter Tryz.func57, Tryz.ntmps57
  go_wp2
  go_loopw [13] (fun si W => si = .int .i64 0 ∧ W = w) (fun _ _ => 0)
  case atStart => exact ⟨rfl, rfl⟩
  case round =>
    obtain ⟨rfl, rfl⟩ := hrel
    go_wp2
    go_ret
    exact ⟨rfl, Below.refl _ _⟩

set_option maxHeartbeats 2000000 in
set_option maxRecDepth 100000 in
theorem eqTies (xs : List TieM) (B B' : Nat) (va vb : Value) (w : World) (hn : xs.length ≤ 1000) (ha : w.ownsRow B 58 4 va xs.length (xs.flatMap TieM.cells)) (hb : w.ownsRow B' 58 4 vb xs.length (xs.flatMap TieM.cells)) :
    Calls Tryz.prog 58 #[va, vb] w fun e w' => e = .returned (.bool true) ∧ Below w.heap.size w w' := by
  obtain ⟨a, ca, rfl⟩ := own_slice ha
  obtain ⟨b, cb, rfl⟩ := own_slice hb
  have HA := hide' ha
  have HZ := hide' hb
  clear ha hb
  go_enter Tryz.func58, Tryz.ntmps58
  go_wp2
  go_loopw [13] (fun si W => ∃ k : Nat, si = .int .i64 k ∧ k ≤ xs.length ∧ Hid (Below w.heap.size w W)) (fun si _ => xs.length - (intOf si).toNat)
  case atStart => exact ⟨0, rfl, Nat.zero_le _, Below.refl _ _⟩
  case round =>
    rename World => w2
    obtain ⟨k, rfl, hk, HB⟩ := hrel
    by_cases hlt : k < xs.length
    · obtain ⟨bx, ox, rfl, hx⟩ := elem_cells (f := TieM.cells) (sz := 4) (fun _ => rfl) HA.out k hlt (by decide)
      obtain ⟨bz, oz, rfl, hz⟩ := elem_cells (f := TieM.cells) (sz := 4) (fun _ => rfl) HZ.out k hlt (by decide)
      obtain ⟨L, hL⟩ : ∃ L, L = xs[k] := ⟨_, rfl⟩
      rw [← hL] at hx hz
      have e0 : w2.cell? ⟨bx, ox + k * 4, none⟩ = some (.string L.name) := (HB.out.cell (p := ⟨bx, ox + k * 4, none⟩) (World.block_lt_of_cell? w _ (hx 0 _ rfl))).trans (hx 0 _ rfl)
      have z0 : w2.cell? ⟨bz, oz + k * 4, none⟩ = some (.string L.name) := (HB.out.cell (p := ⟨bz, oz + k * 4, none⟩) (World.block_lt_of_cell? w _ (hz 0 _ rfl))).trans (hz 0 _ rfl)
      have e1 : w2.cell? ⟨bx, ox + k * 4 + 1, none⟩ = some (.int .i64 L.frm) := (HB.out.cell (p := ⟨bx, ox + k * 4 + 1, none⟩) (World.block_lt_of_cell? w _ (hx 1 _ rfl))).trans (hx 1 _ rfl)
      have z1 : w2.cell? ⟨bz, oz + k * 4 + 1, none⟩ = some (.int .i64 L.frm) := (HB.out.cell (p := ⟨bz, oz + k * 4 + 1, none⟩) (World.block_lt_of_cell? w _ (hz 1 _ rfl))).trans (hz 1 _ rfl)
      have e2 : w2.cell? ⟨bx, ox + k * 4 + 2, none⟩ = some (.int .i64 L.to) := (HB.out.cell (p := ⟨bx, ox + k * 4 + 2, none⟩) (World.block_lt_of_cell? w _ (hx 2 _ rfl))).trans (hx 2 _ rfl)
      have z2 : w2.cell? ⟨bz, oz + k * 4 + 2, none⟩ = some (.int .i64 L.to) := (HB.out.cell (p := ⟨bz, oz + k * 4 + 2, none⟩) (World.block_lt_of_cell? w _ (hz 2 _ rfl))).trans (hz 2 _ rfl)
      have e3 : w2.cell? ⟨bx, ox + k * 4 + 3, none⟩ = some (.bool L.closed) := (HB.out.cell (p := ⟨bx, ox + k * 4 + 3, none⟩) (World.block_lt_of_cell? w _ (hx 3 _ rfl))).trans (hx 3 _ rfl)
      have z3 : w2.cell? ⟨bz, oz + k * 4 + 3, none⟩ = some (.bool L.closed) := (HB.out.cell (p := ⟨bz, oz + k * 4 + 3, none⟩) (World.block_lt_of_cell? w _ (hz 3 _ rfl))).trans (hz 3 _ rfl)
      clear hx hz hL
      go_wp2
      go_region
      go_wp2
      exact ⟨⟨k + 1, by go_num, by omega, below_drew2 HB.out⟩, by simp [intOf]; omega⟩
    · go_wp2
      go_ret
      exact ⟨rfl, HB.out⟩
end Go.Proofs.YtkcldnnopmagjabGreatDoor

/- The program's own test that two networks are the same. -/
namespace Go.Proofs.YtkcldnnopmagjabGreatDoor
open Go.RowKit Go.Shelf

/-- Two networks in their boxes, both the same data. -/
structure Two (W : World) (p q : Nat) (N : NetM) (b1 l1 g1 d1 t1 b2 l2 g2 d2 t2 : Value) : Prop where
  hp : W.heap[p]? = some (.cells #[.string N.name, b1, l1, g1, d1, t1] 28 (0, 0))
  hq : W.heap[q]? = some (.cells #[.string N.name, b2, l2, g2, d2, t2] 28 (0, 0))
  o1 : Owns W 0 b1 l1 g1 d1 t1 N
  o2 : Owns W 0 b2 l2 g2 d2 t2 N
theorem owns_later {W W' : World} {B : Nat} {N : NetM} {b l g d t : Value} (h : Owns W B b l g d t N) (hb : Below W.heap.size W W') : Owns W' B b l g d t N :=
  ⟨own_below h.hb hb (Nat.le_refl _), own_below h.hl hb (Nat.le_refl _), own_below h.hg hb (Nat.le_refl _), own_below h.hd hb (Nat.le_refl _), own_below h.ht hb (Nat.le_refl _)⟩
theorem own_zero {w : World} {B e sz n : Nat} {v : Value} {xs : List Value} (h : w.ownsRow B e sz v n xs) : w.ownsRow 0 e sz v n xs := by
  refine ⟨h.1, ?_⟩
  rcases h.2 with h2 | ⟨g, cap, cur, h3, _, h5⟩
  · exact .inl h2
  · exact .inr ⟨g, cap, cur, h3, Nat.zero_le _, h5⟩
theorem owns_zero {W : World} {B : Nat} {N : NetM} {b l g d t : Value} (h : Owns W B b l g d t N) : Owns W 0 b l g d t N :=
  ⟨own_zero h.hb, own_zero h.hl, own_zero h.hg, own_zero h.hd, own_zero h.ht⟩
theorem Two.later {W W' : World} {p q : Nat} {N : NetM} {b1 l1 g1 d1 t1 b2 l2 g2 d2 t2 : Value} (h : Two W p q N b1 l1 g1 d1 t1 b2 l2 g2 d2 t2) (hb : Below W.heap.size W W') : Two W' p q N b1 l1 g1 d1 t1 b2 l2 g2 d2 t2 :=
  ⟨(hb.block p (Array.getElem?_eq_some_iff.1 h.hp).1).trans h.hp, (hb.block q (Array.getElem?_eq_some_iff.1 h.hq).1).trans h.hq, owns_later h.o1 hb, owns_later h.o2 hb⟩

set_option maxHeartbeats 4000000 in
set_option maxRecDepth 100000 in
theorem same_any (N : NetM) (B1 B2 : Nat) (b1 l1 g1 d1 t1 b2 l2 g2 d2 t2 : Value) (w : World) (hN : GoodM N) (h1 : Owns w B1 b1 l1 g1 d1 t1 N) (h2 : Owns w B2 b2 l2 g2 d2 t2 N) :
    Calls Tryz.prog 30 #[.agg #[.string N.name, b1, l1, g1, d1, t1], .agg #[.string N.name, b2, l2, g2, d2, t2]] w fun e w' => e = .returned (.bool true) ∧ Below w.heap.size w w' := by
  obtain ⟨f1, f2, f3⟩ := hN.fits
  have hg0 : N.gens.length = 0 := by rw [hN.gens]; rfl
  have hd0 : N.loads.length = 0 := by rw [hN.loads]; rfl
  obtain ⟨ag1, cg1, rfl⟩ := own_slice h1.hg
  obtain ⟨ad1, cd1, rfl⟩ := own_slice h1.hd
  obtain ⟨ag2, cg2, rfl⟩ := own_slice h2.hg
  obtain ⟨ad2, cd2, rfl⟩ := own_slice h2.hd
  rw [hg0, hd0] at h1 h2 ⊢
  obtain ⟨W, hW⟩ : ∃ W, W = (w.alloc (.cells #[.string N.name, b1, l1, .slice ag1 0 cg1, .slice ad1 0 cd1, t1] 28)).alloc (.cells #[.string N.name, b2, l2, .slice ag2 0 cg2, .slice ad2 0 cd2, t2] 28) := ⟨_, rfl⟩
  have hbW : Below w.heap.size w W := by rw [hW]; exact ((Below.refl _ w).alloc (Nat.le_refl _) _).alloc (by simp) _
  have hT : Two W w.heap.size (w.heap.size + 1) N b1 l1 (.slice ag1 0 cg1) (.slice ad1 0 cd1) t1 b2 l2 (.slice ag2 0 cg2) (.slice ad2 0 cd2) t2 := by
    refine ⟨?_, ?_, owns_later (owns_zero h1) hbW, owns_later (owns_zero h2) hbW⟩
    · rw [hW]
      exact (Below.heap_alloc _ _ _ (by simp)).trans (World.alloc_heap_new w _)
    · rw [hW]
      have := World.alloc_heap_new (w.alloc (.cells #[.string N.name, b1, l1, .slice ag1 0 cg1, .slice ad1 0 cd1, t1] 28)) (.cells #[.string N.name, b2, l2, .slice ag2 0 cg2, .slice ad2 0 cd2, t2] 28)
      rwa [World.size_alloc] at this
  have HC := hide' (eqTexts N.buses 0 0 _ _ W (by omega) hT.o1.hb hT.o2.hb)
  have HT := hide' hT
  have HB := hide' hbW
  have HW := hide' hW
  have HF : Hid (N.lines.length ≤ 1000 ∧ N.ties.length ≤ 1000) := ⟨by omega, by omega⟩
  clear h1 h2 hT hbW hW hg0 hd0 f1 f2 f3 hN
  go_enter Tryz.func30, Tryz.ntmps30
  go_wp2_with (first
    | (go_at_call 58; refine (eqTies N.ties 0 0 _ _ w4 HF.out.2 T4.out.o1.ht T4.out.o2.ht).mono ?_; rintro e w5 ⟨rfl, hb5⟩)
    | (go_at_call 57; refine (eqLoads0 _ _ _ _ w3).mono ?_; rintro e w4 ⟨rfl, hb4⟩; have T4 := hide' (T3.out.later hb4); obtain ⟨x41, x42, x43, x44, x45⟩ := cells32 T4.out.hp; obtain ⟨y41, y42, y43, y44, y45⟩ := cells32 T4.out.hq; clear x41 x42 x43 x44 y41 y42 y43 y44)
    | (go_at_call 56; refine (eqGens0 _ _ _ _ w2).mono ?_; rintro e w3 ⟨rfl, hb3⟩; have T3 := hide' (T2.out.later hb3); obtain ⟨x31, x32, x33, x34, x35⟩ := cells32 T3.out.hp; obtain ⟨y31, y32, y33, y34, y35⟩ := cells32 T3.out.hq; clear x31 x32 x33 x35 y31 y32 y33 y35)
    | (go_at_call 55; refine (eqLines N.lines 0 0 _ _ w1 HF.out.1 T1.out.o1.hl T1.out.o2.hl).mono ?_; rintro e w2 ⟨rfl, hb2⟩; have T2 := hide' (T1.out.later hb2); obtain ⟨x21, x22, x23, x24, x25⟩ := cells32 T2.out.hp; obtain ⟨y21, y22, y23, y24, y25⟩ := cells32 T2.out.hq; clear x21 x22 x24 x25 y21 y22 y24 y25)
    | (go_at_call 54; go_must (rw [← HW.out]; refine HC.out.mono ?_; rintro e w1 ⟨rfl, hb1⟩; have T1 := hide' (HT.out.later hb1); obtain ⟨x11, x12, x13, x14, x15⟩ := cells32 T1.out.hp; obtain ⟨y11, y12, y13, y14, y15⟩ := cells32 T1.out.hq; clear x11 x13 x14 x15 y11 y13 y14 y15)))
  go_ret
  have s0 := HB.out.size
  have s1 := hb1.size
  have s2 := hb2.size
  have s3 := hb3.size
  have s4 := hb4.size
  exact ⟨rfl, HB.out.trans ((hb1.mono s0).trans ((hb2.mono (by omega)).trans ((hb3.mono (by omega)).trans ((hb4.mono (by omega)).trans (hb5.mono (by omega))))))⟩
end Go.Proofs.YtkcldnnopmagjabGreatDoor

/- Show, the program's face, over a good network: its text, and no fault. -/
namespace Go.Proofs.YtkcldnnopmagjabGreatDoor
open Go.RowKit Go.Shelf

set_option maxHeartbeats 800000 in
theorem show_idle (p0 p1 : Addr) (w : World) :
    CallsD Tryz.prog 27 #[.pointer (some p0), .pointer (some p1)] .returning w fun e u' w' => e = .returned (.tuple #[]) ∧ u' = .returning ∧ w' = w := by
  refine callsD_of_wpS Tryz.func27 rfl fun c₀ cs hu => ?_
  apply wpS_seq
  apply wpS_region
  simp [wpOpsS, go_sem, recoverD, hu, Tryz.ntmps27, Exit.thenS]
  apply wpS_seq
  apply wpS_region
  simp [wpOpsS, go_sem, Exit.thenS]
  refine wpS_cond (t := false) (by simp [Act.eval, Array.replicate]) ?_
  simp only [Bool.false_eq_true, if_false]
  refine wpS_of_wp (wp_skip ?_)
  cases c₀
  simp_all [bodyPostS, results, Tryz.results27]

/-- The world when the network is boxed and the two results' boxes are laid. -/
def showW (w : World) (nm : ByteArray) (b l g d t : Value) : World := ((w.alloc (.cells #[.string nm, b, l, g, d, t] 28)).alloc (.cells #[.string ⟨#[]⟩] 9)).alloc (.cells #[.int .i64 0] 29)
theorem show_size (w : World) (nm : ByteArray) (b l g d t : Value) : (showW w nm b l g d t).heap.size = w.heap.size + 3 := by simp [showW]
theorem show_below (w : World) (nm : ByteArray) (b l g d t : Value) : Below w.heap.size w (showW w nm b l g d t) := (((Below.refl _ w).alloc (Nat.le_refl _) _).alloc (by simp) _).alloc (by simp; omega) _
theorem show_net (w : World) (nm : ByteArray) (b l g d t : Value) : (showW w nm b l g d t).heap[w.heap.size]? = some (.cells #[.string nm, b, l, g, d, t] 28 (0, 0)) :=
  (Below.heap_alloc _ _ _ (by simp; omega)).trans ((Below.heap_alloc _ _ _ (by simp)).trans (World.alloc_heap_new w _))
theorem show_text (w : World) (nm : ByteArray) (b l g d t : Value) : (showW w nm b l g d t).heap[w.heap.size + 1]? = some (.cells #[.string ⟨#[]⟩] 9 (0, 0)) := by
  have := World.alloc_heap_new (w.alloc (.cells #[.string nm, b, l, g, d, t] 28)) (.cells #[.string ⟨#[]⟩] 9)
  rw [World.size_alloc] at this
  exact (Below.heap_alloc _ _ _ (by simp)).trans this
theorem show_fault (w : World) (nm : ByteArray) (b l g d t : Value) : (showW w nm b l g d t).heap[w.heap.size + 2]? = some (.cells #[.int .i64 0] 29 (0, 0)) := by
  have := World.alloc_heap_new ((w.alloc (.cells #[.string nm, b, l, g, d, t] 28)).alloc (.cells #[.string ⟨#[]⟩] 9)) (.cells #[.int .i64 0] 29)
  rw [World.size_alloc, World.size_alloc] at this
  exact this
theorem cell_one {w : World} {p t : Nat} {v : Value} (h : w.heap[p]? = some (.cells #[v] t (0, 0))) : w.cell? ⟨p, 0, none⟩ = some v ∧ w.frozen? ⟨p, 0, none⟩ = false :=
  ⟨by simp only [World.cell?, h]; rfl, by simp [World.frozen?, h]⟩

set_option maxHeartbeats 4000000 in
set_option maxRecDepth 100000 in
theorem Show_good (N : NetM) (B1 : Nat) (b l g d t : Value) (mx : Int) (w : World) (hN : GoodM N) (ho : Owns w B1 b l g d t N) (hm : w.cell? ⟨1, 0, none⟩ = some (.int .i64 mx)) :
    Calls Tryz.prog 8 #[.agg #[.string N.name, b, l, g, d, t]] w fun e w' => e = .returned (.tuple #[.string (textOf (textT (toldN N))), .int .i64 0]) ∧ Below w.heap.size w w' := by
  have hmf := mkf
  have h1w : 1 < w.heap.size := World.block_lt_of_cell? w _ hm
  obtain ⟨ab, cb, rfl⟩ := own_slice ho.hb
  obtain ⟨al, cl, rfl⟩ := own_slice ho.hl
  obtain ⟨ag, cg, rfl⟩ := own_slice ho.hg
  obtain ⟨ad, cd, rfl⟩ := own_slice ho.hd
  obtain ⟨at', ct, rfl⟩ := own_slice ho.ht
  obtain ⟨W, hW⟩ : ∃ W, W = showW w N.name (.slice ab N.buses.length cb) (.slice al N.lines.length cl) (.slice ag N.gens.length cg) (.slice ad N.loads.length cd) (.slice at' N.ties.length ct) := ⟨_, rfl⟩
  have h0 := show_net w N.name (.slice ab N.buses.length cb) (.slice al N.lines.length cl) (.slice ag N.gens.length cg) (.slice ad N.loads.length cd) (.slice at' N.ties.length ct)
  have h1 := show_text w N.name (.slice ab N.buses.length cb) (.slice al N.lines.length cl) (.slice ag N.gens.length cg) (.slice ad N.loads.length cd) (.slice at' N.ties.length ct)
  have h2 := show_fault w N.name (.slice ab N.buses.length cb) (.slice al N.lines.length cl) (.slice ag N.gens.length cg) (.slice ad N.loads.length cd) (.slice at' N.ties.length ct)
  have hb := show_below w N.name (.slice ab N.buses.length cb) (.slice al N.lines.length cl) (.slice ag N.gens.length cg) (.slice ad N.loads.length cd) (.slice at' N.ties.length ct)
  have hz := show_size w N.name (.slice ab N.buses.length cb) (.slice al N.lines.length cl) (.slice ag N.gens.length cg) (.slice ad N.loads.length cd) (.slice at' N.ties.length ct)
  rw [← hW] at h0 h1 h2 hb hz
  have htell := tell_ok N B1 _ _ _ _ _ W hN (told_len hN) (owns_later ho hb)
  obtain ⟨T, hT⟩ : ∃ T, T = textOf (textT (toldN N)) := ⟨_, rfl⟩
  have hread := good_read hN
  have hTs : T.size ≤ 9223372036854775807 := by rw [hT, size_textOf]; have := told_len hN; omega
  rw [← hT] at htell hread ⊢
  unfold showW at hW
  have HW := hide' hW
  have H0 := hide' h0
  have H1 := hide' h1
  have H2 := hide' h2
  have HB := hide' hb
  have HZ := hide' hz
  have HT := hide' htell
  have HR := hide' hread
  have HM := hide' hm
  have HG := hide' hN
  have HO := hide' ho
  have H1W := hide' h1w
  have HTS := hide' hTs
  clear hW h0 h1 h2 hb hz htell hread hm hN ho h1w hT hTs
  go_enter_defers Tryz.func8, Tryz.ntmps8
  go_wp2_with (first
    | (go_at_call 28; go_must (rw [← HW.out]; refine HT.out.mono ?_; rintro e w1 ⟨rfl, hb1⟩; obtain ⟨k1, f1⟩ := cell_one ((hb1.block (w.heap.size + 1) (by have := HZ.out; omega)).trans H1.out))))
  obtain ⟨W1, hW1⟩ : ∃ W1, W1 = w1.setCell ⟨w.heap.size + 1, 0, none⟩ (.string T) := ⟨_, rfl⟩
  have hz := HZ.out
  have hs1 := hb1.size
  have g0 : W1.heap[w.heap.size]? = some (.cells #[.string N.name, .slice ab N.buses.length cb, .slice al N.lines.length cl, .slice ag N.gens.length cg, .slice ad N.loads.length cd, .slice at' N.ties.length ct] 28 (0, 0)) := by rw [hW1]; exact (Below.heap_setCell _ _ _ _ (by simp)).trans ((hb1.block _ (by omega)).trans H0.out)
  have g1 : W1.heap[w.heap.size + 1]? = some (.cells #[.string T] 9 (0, 0)) := by rw [hW1]; exact set_any ((hb1.block (w.heap.size + 1) (by omega)).trans H1.out) 0 (.string T)
  have g2 : W1.heap[w.heap.size + 2]? = some (.cells #[.int .i64 0] 29 (0, 0)) := by rw [hW1]; exact (Below.heap_setCell _ _ _ _ (by simp)).trans ((hb1.block _ (by omega)).trans H2.out)
  have gb : Below w.heap.size w W1 := by rw [hW1]; exact (HB.out.trans (hb1.mono (by omega))).setCell (p := ⟨w.heap.size + 1, 0, none⟩) (Nat.le_succ _) _
  have gs : w.heap.size + 3 ≤ W1.heap.size := by rw [hW1, World.size_setCell]; omega
  have h6 := Read_any T mx W1 HTS.out ((gb.cell (p := ⟨1, 0, none⟩) H1W.out).trans HM.out)
  rw [HR.out] at h6
  rw [← hW1]
  have H6 := hide' h6
  have G0 := hide' g0
  have G1 := hide' g1
  have G2 := hide' g2
  have GB := hide' gb
  have GS := hide' gs
  clear hW1 hz hs1 g0 g1 g2 gb gs h6 hb1 k1 f1 HT HR HM HTS H1W HW H0 H1 H2 HB HZ
  refine H6.out.mono ?_
  rintro e w2 ⟨b2, l2, g2, d2, t2, rfl, ho2, hb2⟩
  obtain ⟨ab2, cb2, rfl⟩ := own_slice ho2.hb
  obtain ⟨al2, cl2, rfl⟩ := own_slice ho2.hl
  obtain ⟨ag2, cg2, rfl⟩ := own_slice ho2.hg
  obtain ⟨ad2, cd2, rfl⟩ := own_slice ho2.hd
  obtain ⟨at2, ct2, rfl⟩ := own_slice ho2.ht
  have HO2 := hide' ho2
  have HB2 := hide' hb2
  clear H6
  have later2 : ∀ {p : Addr} {v : Value}, w2.cell? p = some v → ∀ o o', ((w2.alloc o).alloc o').cell? p = some v := fun h o o' => later (W := w2.alloc o) (later h o) o'
  have hgs := GS.out
  have hs2 := hb2.size
  have g0 := (hb2.block w.heap.size (by omega)).trans G0.out
  obtain ⟨n0, n1, n2, n3, n4, n5, _⟩ := cells28 g0
  have m0 := later2 n0
  have m1 := later2 n1
  have m2 := later2 n2
  have m3 := later2 n3
  have m4 := later2 n4
  have m5 := later2 n5
  have hbw2 : Below w.heap.size w w2 := GB.out.trans (hb2.mono (by omega))
  have HBW2 := hide' hbw2
  have hpair : ∀ o o', Below w2.heap.size w2 ((w2.alloc o).alloc o') := fun o o' => ((Below.refl _ w2).alloc (Nat.le_refl _) o).alloc (by simp) o'
  have hsame : ∀ o o', Calls Tryz.prog 30 #[.agg #[.string N.name, .slice ab2 N.buses.length cb2, .slice al2 N.lines.length cl2, .slice ag2 N.gens.length cg2, .slice ad2 N.loads.length cd2, .slice at2 N.ties.length ct2], .agg #[.string N.name, .slice ab N.buses.length cb, .slice al N.lines.length cl, .slice ag N.gens.length cg, .slice ad N.loads.length cd, .slice at' N.ties.length ct]] ((w2.alloc o).alloc o') fun e w' => e = .returned (.bool true) ∧ Below ((w2.alloc o).alloc o').heap.size ((w2.alloc o).alloc o') w' := fun o o' =>
    same_any N _ _ _ _ _ _ _ _ _ _ _ _ _ HG.out (owns_later ho2 (hpair o o')) (owns_later (owns_later HO.out hbw2) (hpair o o'))
  have HSM := hide' hsame
  have HPR := hide' hpair
  have k1 := (hb2.block (w.heap.size + 1) (by omega)).trans G1.out
  have k2 := (hb2.block (w.heap.size + 2) (by omega)).trans G2.out
  have K1 := hide' k1
  have K2 := hide' k2
  have HLT : Hid (w.heap.size + 3 ≤ w2.heap.size) := by show w.heap.size + 3 ≤ w2.heap.size; omega
  clear ho2 hb2 g0 n0 n1 n2 n3 n4 n5 hgs hs2 hbw2 hpair hsame later2 k1 k2 HO2 HB2 GB GS G0 G1 G2
  go_wp2_with (go_at_call 30; refine (HSM.out _ _).mono ?_; rintro e w3 ⟨rfl, hb3⟩; have hp3 := (HPR.out _ _).trans (hb3.mono (by simp; omega)); have K13 := (hp3.block (w.heap.size + 1) (by have := HLT.out; omega)).trans K1.out; have K23 := (hp3.block (w.heap.size + 2) (by have := HLT.out; omega)).trans K2.out; obtain ⟨c1, f1⟩ := cell_one K13; obtain ⟨c2, f2⟩ := cell_one K23; have HP3 := hide' hp3; have HK1 := hide' K13; have HK2 := hide' K23; clear hb3 hp3 K13 K23)
  obtain ⟨w4, hw4⟩ : ∃ w4, w4 = (w3.setCell ⟨w.heap.size + 1, 0, none⟩ (.string T)).setCell ⟨w.heap.size + 1 + 1, 0, none⟩ (.int .i64 0) := ⟨_, rfl⟩
  have e1 := set_any HK1.out 0 (.string T)
  have e2 : (w3.setCell ⟨w.heap.size + 1, 0, none⟩ (.string T)).heap[w.heap.size + 2]? = some (.cells #[.int .i64 0] 29 (0, 0)) := (Below.heap_setCell _ _ _ _ (by simp)).trans HK2.out
  have e3 := set_any e2 0 (.int .i64 0)
  have e4 : w4.heap[w.heap.size + 1]? = some (.cells #[.string T] 9 (0, 0)) := by rw [hw4]; exact (Below.heap_setCell _ _ _ _ (by simp)).trans e1
  have e5 : w4.heap[w.heap.size + 1 + 1]? = some (.cells #[.int .i64 0] 29 (0, 0)) := by rw [hw4]; exact e3
  have hbel : Below w.heap.size w w4 := by
    rw [hw4]
    exact ((HBW2.out.trans (HP3.out.mono HBW2.out.size)).setCell (p := ⟨w.heap.size + 1, 0, none⟩) (Nat.le_succ _) _).setCell (p := ⟨w.heap.size + 1 + 1, 0, none⟩) (by show w.heap.size ≤ w.heap.size + 1 + 1; omega) _
  rw [← hw4]
  obtain ⟨q1, -⟩ := cell_one e4
  obtain ⟨q2, -⟩ := cell_one e5
  clear hw4 e1 e2 e3 e4 e5
  refine leaves_cons (f := 27) (args := #[.pointer (some ⟨w.heap.size + 1, 0, none⟩), .pointer (some ⟨w.heap.size + 1 + 1, 0, none⟩)]) (by simp) (by simp [go_sem]) ?_
  refine (show_idle ⟨w.heap.size + 1, 0, none⟩ ⟨w.heap.size + 1 + 1, 0, none⟩ w4).mono ?_
  rintro e u' w5 ⟨rfl, rfl, rfl⟩
  refine ⟨.tuple #[.string T, .int .i64 0], ?_, rfl, hbel⟩
  simp [results, Tryz.results8, go_sem, q1, q2]
end Go.Proofs.YtkcldnnopmagjabGreatDoor
