/- The library's joining of words, laid at this program. -/
import Derived.Test.YtpbalclhdhjnoaaGreatDoorKWr0
import Derived.Shelf.Strings.OnBuilder
import Derived.Test.YtpbalclhdhjnoaaGreatDoorKSh0
import Derived.Deep.RegionHeld3
import Derived.Shelf.RegionOpenPlain
namespace Go.Proofs.YtpbalclhdhjnoaaGreatDoor
open Go.RowKit Go.Shelf

def ren0 : Go.Shelf.Ren := ⟨fun | 156 => 47 | 165 => 56 | 166 => 46 | 169 => 38 | 240 => 55 | 241 => 71 | 276 => 70 | 277 => 84 | n => n, fun | 31 => 22 | 37 => 73 | 70 => 72 | 72 => 75 | 75 => 90 | 76 => 91 | 80 => 81 | 127 => 96 | 164 => 114 | n => n, fun | n => n⟩
theorem lays156 : Go.Proofs.Lays.n156 Tryz.prog ren0 := {
  mixed := by kernel_rfl
  f156 := Tryz.func47.trans (congrArg some (by kernel_rfl))
  f165 := Tryz.func56.trans (congrArg some (by kernel_rfl))
  f166 := Tryz.func46.trans (congrArg some (by kernel_rfl))
  f169 := Tryz.func38.trans (congrArg some (by kernel_rfl))
  f240 := Tryz.func55.trans (congrArg some (by kernel_rfl))
  f241 := Tryz.func71.trans (congrArg some (by kernel_rfl))
  f276 := Tryz.func70.trans (congrArg some (by kernel_rfl))
  f277 := Tryz.func84.trans (congrArg some (by kernel_rfl))
  t0 := Go.Proofs.Tryz.underlying0
  a0 := Go.Proofs.Tryz.isAgg0
  z0 := Go.Proofs.Tryz.sizeOf0
  v0 := Go.Proofs.Tryz.zeroValue0
  t3 := Go.Proofs.Tryz.underlying3
  a3 := Go.Proofs.Tryz.isAgg3
  z3 := Go.Proofs.Tryz.sizeOf3
  v3 := Go.Proofs.Tryz.zeroValue3
  t4 := Go.Proofs.Tryz.underlying4
  a4 := Go.Proofs.Tryz.isAgg4
  z4 := Go.Proofs.Tryz.sizeOf4
  v4 := Go.Proofs.Tryz.zeroValue4
  t9 := Go.Proofs.Tryz.underlying9
  a9 := Go.Proofs.Tryz.isAgg9
  z9 := Go.Proofs.Tryz.sizeOf9
  v9 := Go.Proofs.Tryz.zeroValue9
  t20 := Go.Proofs.Tryz.underlying20
  a20 := Go.Proofs.Tryz.isAgg20
  z20 := Go.Proofs.Tryz.sizeOf20
  v20 := Go.Proofs.Tryz.zeroValue20
  t31 := Go.Proofs.Tryz.underlying22
  a31 := Go.Proofs.Tryz.isAgg22
  z31 := Go.Proofs.Tryz.sizeOf22
  v31 := Go.Proofs.Tryz.zeroValue22
  t37 := Go.Proofs.Tryz.underlying73
  a37 := Go.Proofs.Tryz.isAgg73
  z37 := Go.Proofs.Tryz.sizeOf73
  v37 := Go.Proofs.Tryz.zeroValue73
  t70 := Go.Proofs.Tryz.underlying72
  a70 := Go.Proofs.Tryz.isAgg72
  z70 := Go.Proofs.Tryz.sizeOf72
  v70 := Go.Proofs.Tryz.zeroValue72
  t72 := Go.Proofs.Tryz.underlying75
  a72 := Go.Proofs.Tryz.isAgg75
  z72 := Go.Proofs.Tryz.sizeOf75
  v72 := Go.Proofs.Tryz.zeroValue75
  t75 := Go.Proofs.Tryz.underlying90
  a75 := Go.Proofs.Tryz.isAgg90
  z75 := Go.Proofs.Tryz.sizeOf90
  v75 := Go.Proofs.Tryz.zeroValue90
  t76 := Go.Proofs.Tryz.underlying91
  a76 := Go.Proofs.Tryz.isAgg91
  z76 := Go.Proofs.Tryz.sizeOf91
  v76 := Go.Proofs.Tryz.zeroValue91
  t127 := Go.Proofs.Tryz.underlying96
  a127 := Go.Proofs.Tryz.isAgg96
  z127 := Go.Proofs.Tryz.sizeOf96
  v127 := Go.Proofs.Tryz.zeroValue96
  t164 := Go.Proofs.Tryz.underlying114
  a164 := Go.Proofs.Tryz.isAgg114
  z164 := Go.Proofs.Tryz.sizeOf114
  v164 := Go.Proofs.Tryz.zeroValue114 }
theorem extra156 : Builder.Extra Tryz.prog ren0 := {
  sizeBuilder := by kernel_rfl
  liesBuilder := by kernel_rfl
  t5 := Go.Proofs.Tryz.underlying5
  a5 := Go.Proofs.Tryz.isAgg5
  z5 := Go.Proofs.Tryz.sizeOf5
  v5 := Go.Proofs.Tryz.zeroValue5
  infoByte := by kernel_rfl
  cellsByte := by kernel_rfl
  sizeByte := by kernel_rfl
  neB5 := by decide }
theorem join_lib : ∀ (xs : List ByteArray), Lib.join (xs.map (·.data.toList)) [32] = joinW (xs.map bytesOf)
  | [] => rfl
  | [x] => by rw [List.map_cons, List.map_nil, Lib.join_one]; rfl
  | x :: y :: r => by
    have e : Lib.join ((x :: y :: r).map (·.data.toList)) [32] = x.data.toList ++ 32 :: Lib.join ((y :: r).map (·.data.toList)) [32] := by simp [Lib.join, List.intercalate]
    rw [e, join_lib (y :: r)]
    rfl
theorem join_any (bk o c : Nat) (xs : List ByteArray) (w : World) (hc : ∀ (j : Nat) x, xs[j]? = some x → w.cell? ⟨bk, o + j, none⟩ = some (.string x)) (hbk : bk < w.heap.size) (hN : xs.length ≤ 10) (hcap : xs.length ≤ c) (hlen : (lineT xs).length ≤ 100000000) :
    Calls Tryz.prog 47 #[.slice (some ⟨bk, o, none⟩) xs.length c, .string ⟨#[32]⟩] w fun e w' => e = .returned (.string (textOf (lineT xs))) ∧ Below w.heap.size w w' := by
  have h := Any.strings_Join lays156 extra156 bk o c xs ⟨#[32]⟩ w hc hbk (by omega) hcap (by rw [show (⟨#[32]⟩ : ByteArray).data.toList = [32] from rfl, join_lib]; unfold lineT at hlen; omega)
  rw [show (⟨#[32]⟩ : ByteArray).data.toList = [32] from rfl, join_lib] at h
  exact h
end Go.Proofs.YtpbalclhdhjnoaaGreatDoor

namespace Go.Proofs.YtpbalclhdhjnoaaGreatDoor
open Go.RowKit Go.Shelf

theorem own_below {w w' : World} {B B' e sz n : Nat} {v : Value} {xs : List Value} (h : w.ownsRow B e sz v n xs) (hB : Below B' w w') (hb : w.heap.size ≤ B') : w'.ownsRow B e sz v n xs := by
  refine ⟨h.1, ?_⟩
  rcases h.2 with h2 | ⟨g, cap, cur, h3, h4, h5, h6⟩
  · exact .inl h2
  · exact .inr ⟨g, cap, cur, h3, h4, (hB.block g (Nat.lt_of_lt_of_le (Array.getElem?_eq_some_iff.1 h5).1 hb)).trans h5, h6⟩
section
variable {B V : Nat} {p v uv : Value} {l : List UInt8} {w w' : World}
theorem WrAt.later (h : WrAt B V p l uv w) (hb : Below w.heap.size w w') : WrAt B V p l uv w' := by
  obtain ⟨hB, v, hk, ho⟩ := h
  exact ⟨hB, v, (hb.block V (Array.getElem?_eq_some_iff.1 hk).1).trans hk, own_below ho hb (Nat.le_refl _)⟩
theorem IsWr.later (h : IsWr B V l uv w) (hb : Below w.heap.size w w') : IsWr B V l uv w' := h.elim (fun h => .inl (h.later hb)) (fun h => .inr (h.later hb))
theorem WrAt.drew (h : WrAt B V p l uv w) : WrAt B V p l uv w.drew := h
theorem IsWr.drew (h : IsWr B V l uv w) : IsWr B V l uv w.drew := h
theorem IsWr.lt (h : IsWr B V l uv w) : V < w.heap.size := by
  obtain ⟨p, _, v, hk, _⟩ := h.at
  exact (Array.getElem?_eq_some_iff.1 hk).1
end

set_option maxHeartbeats 2000000 in
set_option maxRecDepth 100000 in
theorem writeByte_any (B V : Nat) (l : List UInt8) (uv : Value) (w : World) (h : IsWr B V l uv w) (hl : l.length ≤ 100000000) (hBw : B ≤ w.heap.size) :
    Calls Tryz.prog 48 #[.pointer (some ⟨V, 0, none⟩), .int .u8 10] w fun e w' => e = .returned .nilIface ∧ WrAt B V (.pointer (some ⟨V, 0, none⟩)) (l ++ [10]) uv w' ∧ Bel B w w' := by
  obtain ⟨i0, hi, hz0, hz1, hz2⟩ := info_parts Tryz.info5
  have HC := hide' (copyCheck_any h)
  clear h
  go_enter Tryz.func48, Tryz.ntmps48
  go_wp2_with (go_at_call 55; refine HC.out.mono ?_)
  rintro e w1 ⟨rfl, ⟨hB, v, hk, ho⟩, hb1⟩
  obtain ⟨c0, c1, c2, fz⟩ := wr_cell hk
  go_wp2_with (at_builtin; refine wpList_append_own _ rfl _ _ 73 rfl B 5 i0 (.int .u8 0) 1 1 Tryz.underlying73 hi hz0 hz1 hz2 rfl (by decide) _ _ _ rfl (ho.alloc _) ⟨w1.heap.size, 0, none⟩ 1 1 [.int .u8 10] rfl rfl ?c1 ?c2 ?c3 ?c4 ?c5 ?_)
  case c1 =>
    intro j u hj
    match j, hj with
    | 0, hj => simp at hj; subst hj; simp [Addr.add]
  case c2 => intro u hu; simp at hu; subst hu; rfl
  case c3 => unfold maxLen; omega
  case c4 => omega
  case c5 => have := hb1.size; simp; omega
  intro v' w2 hown' hgrow _
  have hka : (w1.alloc (.cells #[.int .u8 10] 5)).heap[V]? = some (.cells #[.pointer (some ⟨V, 0, none⟩), v, uv] 77 (0, 0)) := (Below.heap_alloc w1 _ V (Array.getElem?_eq_some_iff.1 hk).1).trans hk
  have hk2 : w2.heap[V]? = some (.cells #[.pointer (some ⟨V, 0, none⟩), v, uv] 77 (0, 0)) := (hgrow.block V (Array.getElem?_eq_some_iff.1 hka).1 (wr_ne hk ho)).trans hka
  obtain ⟨d0, d1, d2, fz2⟩ := wr_cell hk2
  obtain ⟨a', c', rfl⟩ := own_slice hown'
  go_wp2
  go_ret
  have hcells : Lib.byteCells l ++ [.int .u8 10] = Lib.byteCells (l ++ [10]) := by simp [Lib.byteCells]
  have hlen : l.length + 1 = (l ++ [10]).length := by simp
  rw [hcells, hlen] at hown'
  refine ⟨rfl, ⟨hB, _, set61 hk2 1 _, ?_⟩, ?_⟩
  · have := own_block (K := V) hown' hk2 (by decide) (w' := w2.setCell ⟨V, 1, none⟩ (.slice a' (l.length + 1) c')) fun k _ hne => Below.heap_setCell w2 _ _ k hne
    rw [← hlen] at this ⊢
    exact this
  · refine hb1.trans ⟨(((Below.refl B w1).alloc (by have := hb1.size; omega) _).grown hgrow (by have := hb1.size; simp; omega) (fun k hk => (ho.lt k hk).1)).setCell (p := ⟨V, 1, none⟩) hB _, fun k o hk1 hoo => rest_set w2 _ _ k o (grown_rest (ho.alloc _) hgrow k o ((Below.heap_alloc w1 _ k (Array.getElem?_eq_some_iff.1 hk1).1).trans hk1) hoo) hoo⟩

set_option maxHeartbeats 2000000 in
set_option maxRecDepth 100000 in
theorem line_wr (B V : Nat) (l : List UInt8) (uv : Value) (bk o c : Nat) (xs : List ByteArray) (w : World) (h : IsWr B V l uv w) (hc : ∀ (j : Nat) x, xs[j]? = some x → w.cell? ⟨bk, o + j, none⟩ = some (.string x)) (hbk : bk < w.heap.size)
    (hN : xs.length ≤ 10) (hcap : xs.length ≤ c) (hlen : l.length + (lineT xs).length + 1 ≤ 20000) (hBw : B ≤ w.heap.size) :
    Calls Tryz.prog 34 #[.pointer (some ⟨V, 0, none⟩), .slice (some ⟨bk, o, none⟩) xs.length c] w fun e w' => e = .returned (.tuple #[]) ∧ WrAt B V (.pointer (some ⟨V, 0, none⟩)) (l ++ lineT xs ++ [10]) uv w' ∧ Below B w w' := by
  have HJ := hide' (join_any bk o c xs w.drew hc hbk hN hcap (by omega))
  have HW := hide' h
  have hsz : (textOf (lineT xs)).size ≤ 100000000 := by rw [size_textOf]; omega
  have HL := hide' hlen
  have hlt := h.lt
  clear h hc
  go_enter Tryz.func34, Tryz.ntmps34
  go_wp2_with fail
  go_region_held3 (fun _ => True)
    (trivial)
    (first | (go_at_call 46; refine (writeString_any B V l uv (textOf (lineT xs)) w1 (HW.out.drew.later hb1) (by have := HL.out; omega) hsz (by have := hb1.size; exact Nat.le_trans hBw this)).mono ?_; rintro e w2 ⟨rfl, hwr2, hb2⟩) | (go_at_call 47; refine HJ.out.mono ?_; rintro e w1 ⟨rfl, hb1⟩))
  have HW2 := hide' (show IsWr B V (l ++ lineT xs) uv w2 from .inr (by rw [bytesOf_textOf] at hwr2; exact hwr2))
  have hs2 : B ≤ w2.heap.size := Nat.le_trans (Nat.le_trans hBw hb1.size) hb2.size
  have hlen2 : (l ++ lineT xs).length ≤ 100000000 := by rw [List.length_append]; omega
  have HB2 := hide' ((Below.mono (B := w.heap.size) (show Below w.heap.size w w1 from ⟨hb1.os, hb1.tape, hb1.output, hb1.size, hb1.block⟩) hBw).trans hb2.toBelow)
  clear hwr2 hb1 hb2 HW HJ
  have hgt : decide ((20000 : Int) < ((l ++ lineT xs ++ [10]).length : Int)) = false := by simp only [List.length_append, List.length_cons, List.length_nil]; simp; omega
  go_wp2_with (first
    | (go_at_call 49; refine (len_any (.inr hwr3)).mono ?_; rintro e w4 ⟨rfl, rfl⟩)
    | (go_at_call 48; refine (writeByte_any B V (l ++ lineT xs) uv w2 HW2.out hlen2 hs2).mono ?_; rintro e w3 ⟨rfl, hwr3, hb3⟩))
  go_end0
  exact ⟨rfl, hwr3, HB2.out.trans hb3.toBelow⟩

set_option maxHeartbeats 1000000 in
theorem state_any (b : Bool) (w : World) : Calls Tryz.prog 37 #[.bool b] w fun e w' => e = .returned (.string (if b then kClosed else kOpen)) ∧ w' = w := by
  cases b
  · go_enter Tryz.func37, Tryz.ntmps37
    go_wp2
    go_ret
    exact ⟨rfl, rfl⟩
  · go_enter Tryz.func37, Tryz.ntmps37
    go_wp2
    go_ret
    exact ⟨rfl, rfl⟩
set_option maxHeartbeats 1000000 in
theorem bus_wr (V : Nat) (bb ob cb k n : Nat) (x : ByteArray) (w : World) (hu : w.cell? ⟨V, 2, none⟩ = some (.slice (some ⟨bb, ob, none⟩) n cb)) (hk : k < n) (hx : w.cell? ⟨bb, ob + k, none⟩ = some (.string x)) :
    Calls Tryz.prog 35 #[.pointer (some ⟨V, 0, none⟩), .int .i64 k] w fun e w' => e = .returned (.string x) ∧ w' = w := by
  have h1 : decide ((k : Int) < 0) = false := by simp
  have h2 : decide ((n : Int) ≤ (k : Int)) = false := by simp; omega
  go_enter Tryz.func35, Tryz.ntmps35
  go_wp2
  go_ret
  exact ⟨rfl, rfl⟩
end Go.Proofs.YtpbalclhdhjnoaaGreatDoor

namespace Go.Proofs.YtpbalclhdhjnoaaGreatDoor
open Go.RowKit Go.Shelf

theorem cells5 : Tryz.prog.cellsOf 5 = 1 := by kernel_rfl
set_option maxHeartbeats 2000000 in
set_option maxRecDepth 100000 in
theorem string_wr (B V : Nat) (l : List UInt8) (uv : Value) (w : World) (h : IsWr B V l uv w) (h0 : l ≠ []) : Calls Tryz.prog 38 #[.pointer (some ⟨V, 0, none⟩)] w fun e w' => e = .returned (.string (textOf l)) ∧ Below B w w' := by
  obtain ⟨p, hB, v, hbk, hown⟩ := h.at
  have hl0 : l.length ≠ 0 := by simpa using h0
  obtain ⟨g, cap, cur, rfl, hbg, hg, hnc, hcm, hcs, htake⟩ : ∃ g cap cur, v = .slice (some ⟨g, 0, none⟩) l.length cap ∧ B ≤ g ∧ w.heap[g]? = some (.cells cur 5 (0, 0)) ∧ l.length ≤ cap ∧ cap ≤ maxLen ∧ cur.size = cap * 1 ∧ cur.toList.take (l.length * 1) = Lib.byteCells l := by
    rcases hown.2 with ⟨_, hz⟩ | ⟨g, cap, cur, hv, r⟩
    · exact absurd hz hl0
    · exact ⟨g, cap, cur, hv, r⟩
  have c1 : w.drew.cell? ⟨V, 1, none⟩ = some (.slice (some ⟨g, 0, none⟩) l.length cap) := (wr_cell hbk).2.1
  have hSD : (Builtin.unsafeSliceData_ #[73] 96 #[.slice (some ⟨g, 0, none⟩) l.length cap]).run Tryz.prog w.drew = .ok (.pointer (some ⟨g, 0, none⟩)) w.drew :=
    Lib.run_unsafeSliceData_row _ _ _ _ _ _ (by omega)
  have hUS : (Builtin.unsafeString_ #[96, 3] 9 #[.pointer (some ⟨g, 0, none⟩), .int .i64 l.length]).run Tryz.prog w.drew = .ok (.string ⟨l.toArray⟩) (w.drew.freeze ⟨g, 0, none⟩ l.length) := by
    refine Lib.run_unsafeString_row w.drew 96 3 9 5 Go.Proofs.Tryz.underlying96 cells5 g cur.size (by have hg' : w.drew.heap[g]? = some (.cells cur 5 (0, 0)) := hg; simp [World.shape?, hg']) l h0 (by omega) (by unfold maxLen at hcm; omega) ?_
    intro j x hx
    have := hown.cells (g := g) rfl j (.int .u8 x.toNat) (by simp [Lib.byteCells, hx])
    exact this
  clear hown htake hcs
  go_enter Tryz.func38, Tryz.ntmps38
  go_wp2
  go_region
  all_goals (go_wp2; go_ret; exact ⟨rfl, Lib.below_freeze (Below.drew (Below.refl B w)) (p := ⟨g, 0, none⟩) hbg _⟩)
end Go.Proofs.YtpbalclhdhjnoaaGreatDoor
