/- The program's writer over any network: where it gives up. -/
import Derived.Test.YtpbalclhdhjnoaaGreatDoorKWr1
import Derived.Test.YtpbalclhdhjnoaaGreatDoorKSp0
import Derived.Test.YtpbalclhdhjnoaaGreatDoorKWr4
import Derived.Lib.AppendIntMem
namespace Go.Proofs.YtpbalclhdhjnoaaGreatDoor
open Go.RowKit Go.Shelf

/-- The writer gives up: such a network may not be. -/
def stateErr : Ending := .panicked [{ v := .iface 34 (.int .i64 14), recovered := false }]

set_option maxHeartbeats 1000000 in
theorem bus_low (V : Nat) (i : Int) (w : World) (hi : i < 0) : Calls Tryz.prog 35 #[.pointer (some ⟨V, 0, none⟩), .int .i64 i] w fun e w' => e = stateErr ∧ w' = w := by
  have h1 : decide (i < 0) = true := by simpa using hi
  go_enter Tryz.func35, Tryz.ntmps35
  go_wp2
  exact ⟨rfl, rfl, rfl⟩
set_option maxHeartbeats 1000000 in
theorem bus_high (V : Nat) (i : Int) (a : Option Addr) (n c : Nat) (w : World) (hi : 0 ≤ i) (hn : (n : Int) ≤ i) (hu : w.cell? ⟨V, 2, none⟩ = some (.slice a n c)) : Calls Tryz.prog 35 #[.pointer (some ⟨V, 0, none⟩), .int .i64 i] w fun e w' => e = stateErr ∧ w' = w := by
  have h1 : decide (i < 0) = false := by simp; omega
  have h2 : decide ((n : Int) ≤ i) = true := by simpa using hn
  go_enter Tryz.func35, Tryz.ntmps35
  go_wp2
  exact ⟨rfl, rfl, rfl⟩

set_option maxHeartbeats 2000000 in
set_option maxRecDepth 100000 in
theorem line_over (B V : Nat) (l : List UInt8) (uv : Value) (bk o c : Nat) (xs : List ByteArray) (w : World) (h : IsWr B V l uv w) (hc : ∀ (j : Nat) x, xs[j]? = some x → w.cell? ⟨bk, o + j, none⟩ = some (.string x)) (hbk : bk < w.heap.size)
    (hN : xs.length ≤ 10) (hcap : xs.length ≤ c) (hl : l.length ≤ 20000) (hx : (lineT xs).length ≤ 50000000) (hlen : 20000 < l.length + (lineT xs).length + 1) (hBw : B ≤ w.heap.size) :
    Calls Tryz.prog 34 #[.pointer (some ⟨V, 0, none⟩), .slice (some ⟨bk, o, none⟩) xs.length c] w fun e w' => e = stateErr ∧ Below B w w' := by
  have HJ := hide' (join_any bk o c xs w.drew hc hbk hN hcap (by omega))
  have HW := hide' h
  have hsz : (textOf (lineT xs)).size ≤ 100000000 := by rw [size_textOf]; omega
  have HL := hide' hlen
  have hlt := h.lt
  clear h hc
  go_enter Tryz.func34, Tryz.ntmps34
  go_wp2_with fail
  go_region_held3 (fun _ => True)
    (trivial)
    (first | (go_at_call 46; refine (writeString_any B V l uv (textOf (lineT xs)) w1 (HW.out.drew.later hb1) (by omega) hsz (by have := hb1.size; exact Nat.le_trans hBw this)).mono ?_; rintro e w2 ⟨rfl, hwr2, hb2⟩) | (go_at_call 47; refine HJ.out.mono ?_; rintro e w1 ⟨rfl, hb1⟩))
  have HW2 := hide' (show IsWr B V (l ++ lineT xs) uv w2 from .inr (by rw [bytesOf_textOf] at hwr2; exact hwr2))
  have hs2 : B ≤ w2.heap.size := Nat.le_trans (Nat.le_trans hBw hb1.size) hb2.size
  have hlen2 : (l ++ lineT xs).length ≤ 100000000 := by rw [List.length_append]; omega
  have HB2 := hide' ((Below.mono (B := w.heap.size) (show Below w.heap.size w w1 from ⟨hb1.os, hb1.tape, hb1.output, hb1.size, hb1.block⟩) hBw).trans hb2.toBelow)
  clear hwr2 hb1 hb2 HW HJ
  have hgt : decide ((20000 : Int) < ((l ++ lineT xs ++ [10]).length : Int)) = true := by
    have := HL.out
    simp only [List.length_append, List.length_cons, List.length_nil]
    simp
    omega
  go_wp2_with (first
    | (go_at_call 49; refine (len_any (.inr hwr3)).mono ?_; rintro e w4 ⟨rfl, rfl⟩)
    | (go_at_call 48; refine (writeByte_any B V (l ++ lineT xs) uv w2 HW2.out hlen2 hs2).mono ?_; rintro e w3 ⟨rfl, hwr3, hb3⟩))
  exact ⟨rfl, rfl, HB2.out.trans hb3.toBelow⟩
end Go.Proofs.YtpbalclhdhjnoaaGreatDoor

namespace Go.Proofs.YtpbalclhdhjnoaaGreatDoor
open Go.RowKit Go.Shelf

theorem join_lenM {m : Nat} : ∀ (ws : List (List UInt8)), (∀ x ∈ ws, x.length ≤ m) → (joinW ws).length ≤ ws.length * (m + 1)
  | [], _ => by simp [joinW]
  | [x], h => by
    rw [joinW_one]
    have := h x (by simp)
    simp
    omega
  | x :: y :: r, h => by
    have := join_lenM (y :: r) (fun z hz => h z (by simp [hz]))
    have h1 := h x (by simp)
    rw [joinW_cons]
    simp only [List.length_append, List.length_cons] at this ⊢
    rw [Nat.succ_mul]
    omega
theorem line_len {ws : List ByteArray} {m : Nat} (h : ∀ x ∈ ws, x.size ≤ m) : (lineT ws).length ≤ ws.length * (m + 1) := by
  have := join_lenM (ws.map bytesOf) (m := m) (fun x hx => by obtain ⟨y, hy, rfl⟩ := List.mem_map.1 hx; rw [length_bytesOf]; exact h y hy)
  simpa [lineT] using this
theorem itoa_len {v : Int} (h0 : -9223372036854775808 ≤ v) (h1 : v ≤ 9223372036854775807) : (decB v).size ≤ 2000000 := by
  unfold decB
  rw [size_textOf]
  unfold Lib.itoa
  split
  · have := (dec_num 19 v.natAbs (by omega)).2.2.2.2
    simp only [List.length_cons]
    omega
  · have := (dec_num 19 v.toNat (by omega)).2.2.2.2
    omega
section
variable {w wr wr' W : World} {N : NetM} {b l g d t : Value} {P : List (List ByteArray)}
theorem Tl.lineG (h : Tl w wr N b l g d t P) (hP : (textT P).length ≤ 20000) (hb : Below wr.heap.size wr wr') (ws : List ByteArray) {n bk : Nat} (hn : n = ws.length) (hbk : bk = wr'.heap.size) (hx : (lineT ws).length ≤ 50000000) (hN : n ≤ 10) :
    Calls Tryz.prog 34 #[.pointer (some ⟨w.heap.size + 1, 0, none⟩), .slice (some ⟨bk, 0, none⟩) n n] (wr'.alloc (.cells (ws.map Value.string).toArray 9)) fun e w' =>
      (e = .returned (.tuple #[]) ∧ Tl w w' N b l g d t (P ++ [ws]) ∧ (textT (P ++ [ws])).length ≤ 20000) ∨ (e = stateErr ∧ 20000 < (textT (P ++ [ws])).length ∧ Below w.heap.size w w') := by
  by_cases hlen : (textT (P ++ [ws])).length ≤ 20000
  · refine (h.line hb ws hn hbk hlen hN).mono ?_
    rintro e w' ⟨he, ht⟩
    exact .inl ⟨he, ht, hlen⟩
  · have hs := h.sz
    have hs' := hb.size
    have hlen' := hlen
    rw [textT_app, textT_one] at hlen'
    simp only [List.length_append, List.length_cons, List.length_nil] at hlen'
    subst hn hbk
    have hal : Below wr'.heap.size wr' (wr'.alloc (.cells (ws.map Value.string).toArray 9)) := (Below.refl _ wr').alloc (Nat.le_refl _) _
    refine (line_over (w.heap.size + 1) (w.heap.size + 1) (textT P) b wr'.heap.size 0 ws.length ws _ ((h.is.later hb).later hal) (words_cells 9) (by simp) hN (Nat.le_refl _) hP hx (by omega) (by simp; omega)).mono ?_
    rintro e w' ⟨he, hb2⟩
    exact .inr ⟨he, by omega, h.bel.trans ((hb.mono (by omega)).trans ((hal.mono (by omega)).trans (hb2.mono (by omega))))⟩
theorem Tl.busG {ab : Option Addr} {cb B1 : Nat} (h : Tl w wr N (.slice ab N.buses.length cb) l g d t P) (ho : w.ownsRow B1 9 1 (.slice ab N.buses.length cb) N.buses.length (N.buses.map Value.string)) (hb : Below wr.heap.size wr W) (i : Int) :
    Calls Tryz.prog 35 #[.pointer (some ⟨w.heap.size + 1, 0, none⟩), .int .i64 i] W fun e w' => ((e = .returned (.string (busAt N i)) ∧ 0 ≤ i ∧ i < N.buses.length) ∨ (e = stateErr ∧ ¬ (0 ≤ i ∧ i < N.buses.length))) ∧ w' = W := by
  by_cases h0 : 0 ≤ i
  · by_cases h1 : i < N.buses.length
    · refine (h.bus ho hb i h0 h1).mono ?_
      rintro e w' ⟨he, hw⟩
      exact ⟨.inl ⟨he, h0, h1⟩, hw⟩
    · obtain ⟨p, -, v, hk, -⟩ := h.is.at
      have hkW := (hb.block (w.heap.size + 1) (by have := h.sz; omega)).trans hk
      refine (bus_high _ i ab N.buses.length cb W h0 (by omega) (wr_cell hkW).2.2.1).mono ?_
      rintro e w' ⟨he, hw⟩
      exact ⟨.inr ⟨he, fun hx => h1 hx.2⟩, hw⟩
  · refine (bus_low _ i W (by omega)).mono ?_
    rintro e w' ⟨he, hw⟩
    exact ⟨.inr ⟨he, fun hx => h0 hx.1⟩, hw⟩
end
/-- The table that the library's Itoa reads lies there, in every later world too. -/
def TabAll (w : World) : Prop := ∀ W, Below w.heap.size w W → Lib.TabIs Tryz.prog W "internal/strconv.uint64pow10" .u64 Lib.pow10Tab
theorem itoaG {w W : World} (ht : TabAll w) (hb : Below w.heap.size w W) (v : Int) (h0 : -9223372036854775808 ≤ v) (h1 : v ≤ 9223372036854775807) : Calls Tryz.prog 36 #[.int .i64 v] W fun e w' => e = .returned (.string (decB v)) ∧ Below W.heap.size W w' := by
  refine (Tryz.strconv_Itoa v h0 h1 W (ht W hb)).mono ?_
  rintro e w' ⟨he, k, os, rfl⟩
  exact ⟨he, Lib.below_grow _ W (Nat.le_refl _) k os⟩
end Go.Proofs.YtpbalclhdhjnoaaGreatDoor
