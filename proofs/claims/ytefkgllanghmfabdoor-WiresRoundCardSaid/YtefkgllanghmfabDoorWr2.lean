/- The program's writer: one line, a bus's name, what was written. -/
import Derived.Test.YtefkgllanghmfabDoorWr1
import Derived.Deep.RegionHeld3
namespace Go.Proofs.YtefkgllanghmfabDoor
open Go.RowKit Go.Shelf

theorem own_below {w w' : World} {B B' e sz n : Nat} {v : Value} {xs : List Value} (h : w.ownsRow B e sz v n xs) (hB : Below B' w w') (hb : w.heap.size ≤ B') : w'.ownsRow B e sz v n xs := by
  refine ⟨h.1, ?_⟩
  rcases h.2 with h2 | ⟨g, cap, cur, h3, h4, h5, h6⟩
  · exact .inl h2
  · exact .inr ⟨g, cap, cur, h3, h4, (hB.block g (Nat.lt_of_lt_of_le (Array.getElem?_eq_some_iff.1 h5).1 hb)).trans h5, h6⟩
section
variable {B V : Nat} {p v uv : Value} {l : List UInt8} {w w' : World}
theorem WrAt.later (h : WrAt B V p l uv w) (hb : Below w.heap.size w w') : WrAt B V p l uv w' := by
  obtain ⟨hB, v, hk, ho⟩ := h
  exact ⟨hB, v, (hb.block V (Array.getElem?_eq_some_iff.1 hk).1).trans hk, own_below ho hb (Nat.le_refl _)⟩
theorem IsWr.later (h : IsWr B V l uv w) (hb : Below w.heap.size w w') : IsWr B V l uv w' := h.elim (fun h => .inl (h.later hb)) (fun h => .inr (h.later hb))
theorem WrAt.drew (h : WrAt B V p l uv w) : WrAt B V p l uv w.drew := h
theorem IsWr.drew (h : IsWr B V l uv w) : IsWr B V l uv w.drew := h
theorem IsWr.lt (h : IsWr B V l uv w) : V < w.heap.size := by
  obtain ⟨p, _, v, hk, _⟩ := h.at
  exact (Array.getElem?_eq_some_iff.1 hk).1
end

set_option maxHeartbeats 2000000 in
set_option maxRecDepth 100000 in
theorem writeByte_any (B V : Nat) (l : List UInt8) (uv : Value) (w : World) (h : IsWr B V l uv w) (hl : l.length ≤ 100000) (hBw : B ≤ w.heap.size) :
    Calls Tryd.prog 31 #[.pointer (some ⟨V, 0, none⟩), .int .u8 10] w fun e w' => e = .returned .nilIface ∧ WrAt B V (.pointer (some ⟨V, 0, none⟩)) (l ++ [10]) uv w' ∧ Bel B w w' := by
  obtain ⟨i0, hi, hz0, hz1, hz2⟩ := info_parts Tryd.info5
  have HC := hide' (copyCheck_any h)
  clear h
  go_enter Tryd.func31, Tryd.ntmps31
  go_wp2_with (go_at_call 46; refine HC.out.mono ?_)
  rintro e w1 ⟨rfl, ⟨hB, v, hk, ho⟩, hb1⟩
  obtain ⟨c0, c1, c2, fz⟩ := wr_cell hk
  go_wp2_with (at_builtin; refine wpList_append_own _ rfl _ _ 56 rfl B 5 i0 (.int .u8 0) 1 1 Tryd.underlying56 hi hz0 hz1 hz2 rfl (by decide) _ _ _ rfl (ho.alloc _) ⟨w1.heap.size, 0, none⟩ 1 1 [.int .u8 10] rfl rfl ?c1 ?c2 ?c3 ?c4 ?c5 ?_)
  case c1 =>
    intro j u hj
    match j, hj with
    | 0, hj => simp at hj; subst hj; simp [Addr.add]
  case c2 => intro u hu; simp at hu; subst hu; rfl
  case c3 => unfold maxLen; omega
  case c4 => omega
  case c5 => have := hb1.size; simp; omega
  intro v' w2 hown' hgrow _
  have hka : (w1.alloc (.cells #[.int .u8 10] 5)).heap[V]? = some (.cells #[.pointer (some ⟨V, 0, none⟩), v, uv] 61 (0, 0)) := (Below.heap_alloc w1 _ V (Array.getElem?_eq_some_iff.1 hk).1).trans hk
  have hk2 : w2.heap[V]? = some (.cells #[.pointer (some ⟨V, 0, none⟩), v, uv] 61 (0, 0)) := (hgrow.block V (Array.getElem?_eq_some_iff.1 hka).1 (wr_ne hk ho)).trans hka
  obtain ⟨d0, d1, d2, fz2⟩ := wr_cell hk2
  obtain ⟨a', c', rfl⟩ := own_slice hown'
  go_wp2
  go_ret
  have hcells : Lib.byteCells l ++ [.int .u8 10] = Lib.byteCells (l ++ [10]) := by simp [Lib.byteCells]
  have hlen : l.length + 1 = (l ++ [10]).length := by simp
  rw [hcells, hlen] at hown'
  refine ⟨rfl, ⟨hB, _, set61 hk2 1 _, ?_⟩, ?_⟩
  · have := own_block (K := V) hown' hk2 (by decide) (w' := w2.setCell ⟨V, 1, none⟩ (.slice a' (l.length + 1) c')) fun k _ hne => Below.heap_setCell w2 _ _ k hne
    rw [← hlen] at this ⊢
    exact this
  · refine hb1.trans ⟨(((Below.refl B w1).alloc (by have := hb1.size; omega) _).grown hgrow (by have := hb1.size; simp; omega) (fun k hk => (ho.lt k hk).1)).setCell (p := ⟨V, 1, none⟩) hB _, fun k o hk1 hoo => rest_set w2 _ _ k o (grown_rest (ho.alloc _) hgrow k o ((Below.heap_alloc w1 _ k (Array.getElem?_eq_some_iff.1 hk1).1).trans hk1) hoo) hoo⟩

set_option maxHeartbeats 2000000 in
set_option maxRecDepth 100000 in
theorem line_wr (B V : Nat) (l : List UInt8) (uv : Value) (bk o c : Nat) (xs : List ByteArray) (w : World) (h : IsWr B V l uv w) (hc : ∀ (j : Nat) x, xs[j]? = some x → w.cell? ⟨bk, o + j, none⟩ = some (.string x)) (hbk : bk < w.heap.size)
    (hN : xs.length ≤ 10) (hcap : xs.length ≤ c) (hlen : l.length + (lineT xs).length + 1 ≤ 20000) (hBw : B ≤ w.heap.size) :
    Calls Tryd.prog 15 #[.pointer (some ⟨V, 0, none⟩), .slice (some ⟨bk, o, none⟩) xs.length c] w fun e w' => e = .returned (.tuple #[]) ∧ WrAt B V (.pointer (some ⟨V, 0, none⟩)) (l ++ lineT xs ++ [10]) uv w' ∧ Below B w w' := by
  have HJ := hide' (join_any bk o c xs w.drew hc hbk hN hcap (by omega))
  have HW := hide' h
  have hsz : (textOf (lineT xs)).size ≤ 100000 := by rw [size_textOf]; omega
  have HL := hide' hlen
  have hlt := h.lt
  clear h hc
  go_enter Tryd.func15, Tryd.ntmps15
  go_wp2_with fail
  go_region_held3 (fun _ => True)
    (trivial)
    (first | (go_at_call 29; refine (writeString_any B V l uv (textOf (lineT xs)) w1 (HW.out.drew.later hb1) (by have := HL.out; omega) hsz (by have := hb1.size; exact Nat.le_trans hBw this)).mono ?_; rintro e w2 ⟨rfl, hwr2, hb2⟩) | (go_at_call 30; refine HJ.out.mono ?_; rintro e w1 ⟨rfl, hb1⟩))
  have HW2 := hide' (show IsWr B V (l ++ lineT xs) uv w2 from .inr (by rw [bytesOf_textOf] at hwr2; exact hwr2))
  have hs2 : B ≤ w2.heap.size := Nat.le_trans (Nat.le_trans hBw hb1.size) hb2.size
  have hlen2 : (l ++ lineT xs).length ≤ 100000 := by rw [List.length_append]; omega
  have HB2 := hide' ((Below.mono (B := w.heap.size) (show Below w.heap.size w w1 from ⟨hb1.os, hb1.tape, hb1.output, hb1.size, hb1.block⟩) hBw).trans hb2.toBelow)
  clear hwr2 hb1 hb2 HW HJ
  have hgt : decide ((20000 : Int) < ((l ++ lineT xs ++ [10]).length : Int)) = false := by simp only [List.length_append, List.length_cons, List.length_nil]; simp; omega
  go_wp2_with (first
    | (go_at_call 32; refine (len_any (.inr hwr3)).mono ?_; rintro e w4 ⟨rfl, rfl⟩)
    | (go_at_call 31; refine (writeByte_any B V (l ++ lineT xs) uv w2 HW2.out hlen2 hs2).mono ?_; rintro e w3 ⟨rfl, hwr3, hb3⟩))
  go_end0
  exact ⟨rfl, hwr3, HB2.out.trans hb3.toBelow⟩

set_option maxHeartbeats 1000000 in
theorem state_any (b : Bool) (w : World) : Calls Tryd.prog 18 #[.bool b] w fun e w' => e = .returned (.string (if b then kClosed else kOpen)) ∧ w' = w := by
  cases b
  · go_enter Tryd.func18, Tryd.ntmps18
    go_wp2
    go_ret
    exact ⟨rfl, rfl⟩
  · go_enter Tryd.func18, Tryd.ntmps18
    go_wp2
    go_ret
    exact ⟨rfl, rfl⟩
set_option maxHeartbeats 1000000 in
theorem bus_wr (V : Nat) (bb ob cb k n : Nat) (x : ByteArray) (w : World) (hu : w.cell? ⟨V, 2, none⟩ = some (.slice (some ⟨bb, ob, none⟩) n cb)) (hk : k < n) (hx : w.cell? ⟨bb, ob + k, none⟩ = some (.string x)) :
    Calls Tryd.prog 16 #[.pointer (some ⟨V, 0, none⟩), .int .i64 k] w fun e w' => e = .returned (.string x) ∧ w' = w := by
  have h1 : decide ((k : Int) < 0) = false := by simp
  have h2 : decide ((n : Int) ≤ (k : Int)) = false := by simp; omega
  go_enter Tryd.func16, Tryd.ntmps16
  go_wp2
  go_ret
  exact ⟨rfl, rfl⟩
end Go.Proofs.YtefkgllanghmfabDoor
