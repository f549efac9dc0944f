/- The program's writer: its builder lies at the head of its own struct. -/
import Derived.Test.YtpbalclhdhjnoaaGreatDoorKD2
import Derived.Test.YtpbalclhdhjnoaaGreatDoorKShelf
import Derived.Test.YtpbalclhdhjnoaaGreatDoorKB8
import Derived.Lib.Builder
import Derived.Lib.AppendStr
import Derived.Lib.UnsafeStr
import Derived.Laws.Externs
namespace Go.Proofs.YtpbalclhdhjnoaaGreatDoor
open Go.RowKit Go.Shelf

/-- The writer at block V: what its builder has written, and the list of buses. -/
def WrAt (B V : Nat) (p : Value) (l : List UInt8) (uv : Value) (w : World) : Prop :=
  B ≤ V ∧ ∃ v, w.heap[V]? = some (.cells #[p, v, uv] 77 (0, 0)) ∧ w.ownsRow B 5 1 v l.length (Lib.byteCells l)
def IsWr (B V : Nat) (l : List UInt8) (uv : Value) (w : World) : Prop := WrAt B V (.pointer none) l uv w ∨ WrAt B V (.pointer (some ⟨V, 0, none⟩)) l uv w

theorem Tryz.underlying72 : Tryz.prog.underlying 72 = some (.pointer 75) := by kernel_rfl
theorem Tryz.underlying114 : Tryz.prog.underlying 114 = some .unsafePointer := by kernel_rfl
theorem Tryz.underlying73 : Tryz.prog.underlying 73 = some (.slice 5) := by kernel_rfl
theorem Tryz.info75 : (Tryz.prog.info? 75).map (·.size) = some 2 := by kernel_rfl
theorem Tryz.info5 : (Tryz.prog.info? 5).map (fun i => (i.zero, i.size, i.bytes)) = some (some (.int .u8 0), 1, 1) := by kernel_rfl
theorem lies61 : liesAt Tryz.prog Tryz.prog.depth 77 (3 / Tryz.prog.cellsOf 77) 0 75 1 = true := by kernel_rfl

section
variable {B V : Nat} {p v uv : Value} {l : List UInt8} {w : World}
theorem wr_shape (h : w.heap[V]? = some (.cells #[p, v, uv] 77 (0, 0))) : w.shape? V = some (77, 3) := by simp [World.shape?, h]
theorem wr_cell (h : w.heap[V]? = some (.cells #[p, v, uv] 77 (0, 0))) : w.cell? ⟨V, 0, none⟩ = some p ∧ w.cell? ⟨V, 1, none⟩ = some v ∧ w.cell? ⟨V, 2, none⟩ = some uv ∧ ∀ j, w.frozen? ⟨V, j, none⟩ = false := by
  refine ⟨?_, ?_, ?_, fun j => by simp [World.frozen?, h]⟩ <;> (simp only [World.cell?, h]; rfl)
theorem IsWr.at (h : IsWr B V l uv w) : ∃ p, WrAt B V p l uv w := h.elim (fun h => ⟨_, h⟩) (fun h => ⟨_, h⟩)
theorem set61 {cur : Array Value} (h : w.heap[V]? = some (.cells cur 77 (0, 0))) (j : Nat) (u : Value) : (w.setCell ⟨V, j, none⟩ u).heap[V]? = some (.cells (cur.setIfInBounds j u) 77 (0, 0)) := by
  simp only [World.setCell, Array.getElem?_modify, if_true, h, Option.map_some]
  rfl

set_option maxHeartbeats 1000000 in
set_option maxRecDepth 100000 in
theorem copyCheck_used (V : Nat) (w : World) (h0 : w.cell? ⟨V, 0, none⟩ = some (.pointer (some ⟨V, 0, none⟩))) :
    Calls Tryz.prog 55 #[.pointer (some ⟨V, 0, none⟩)] w fun e w' => e = .returned (.tuple #[]) ∧ w' = w := by
  obtain ⟨j, hj, _⟩ := Option.map_eq_some_iff.1 Tryz.info75
  go_enter Tryz.func55, Tryz.ntmps55
  go_wp2
  rw [Lib.run_neq_ptr_same w _ Tryz.underlying72 hj]
  go_wp2
  go_end0
  exact ⟨rfl, rfl⟩
set_option maxHeartbeats 1000000 in
set_option maxRecDepth 100000 in
theorem copyCheck_fresh (V : Nat) (w : World) (h0 : w.cell? ⟨V, 0, none⟩ = some (.pointer none)) (hsh : w.shape? V = some (77, 3)) (hfz : w.frozen? ⟨V, 0, none⟩ = false) :
    Calls Tryz.prog 55 #[.pointer (some ⟨V, 0, none⟩)] w fun e w' => e = .returned (.tuple #[]) ∧ w' = w.setCell ⟨V, 0, none⟩ (.pointer (some ⟨V, 0, none⟩)) := by
  obtain ⟨j, hj, hjs⟩ := Option.map_eq_some_iff.1 Tryz.info75
  go_enter Tryz.func55, Tryz.ntmps55
  go_wp2
  rw [Lib.run_to_unsafe w ⟨V, 0, none⟩ Tryz.underlying72 Tryz.underlying114 hj (by rw [hjs]; decide) hsh (Nat.zero_lt_succ 2)]
  simp only [Result.andThen]
  rw [Oper.upon_value]
  go_wp2
  rw [run_callFunc_extern Tryz.func70 (by kernel_rfl) (by kernel_rfl) (by kernel_rfl) (e := Extern.AbiNoEscape.same) (by kernel_rfl)]
  rw [Lib.run_noEscape]
  simp only [Result.andThen]
  rw [Oper.upon_value]
  go_wp2
  rw [Lib.run_from_unsafe w ⟨V, 0, none⟩ Tryz.underlying114 Tryz.underlying72 hj hsh lies61]
  simp only [Result.andThen]
  rw [Oper.upon_value]
  go_wp2
  go_end0
  exact ⟨rfl, rfl⟩
theorem copyCheck_any (h : IsWr B V l uv w) : Calls Tryz.prog 55 #[.pointer (some ⟨V, 0, none⟩)] w fun e w' => e = .returned (.tuple #[]) ∧ WrAt B V (.pointer (some ⟨V, 0, none⟩)) l uv w' ∧ Bel B w w' := by
  rcases h with ⟨hB, v, hk, ho⟩ | ⟨hB, v, hk, ho⟩
  · obtain ⟨c0, _, _, fz⟩ := wr_cell hk
    refine (copyCheck_fresh V w c0 (wr_shape hk) (fz 0)).mono ?_
    rintro e w' ⟨rfl, rfl⟩
    exact ⟨rfl, ⟨hB, v, set61 hk 0 _, own_block ho hk (by decide) fun k _ hne => Below.heap_setCell w _ _ k hne⟩, ⟨(Below.refl B w).setCell (p := ⟨V, 0, none⟩) hB _, rest_set w _ _⟩⟩
  · refine (copyCheck_used V w (wr_cell hk).1).mono ?_
    rintro e w' ⟨rfl, rfl⟩
    exact ⟨rfl, ⟨hB, v, hk, ho⟩, Bel.refl B _⟩
theorem len_any (h : IsWr B V l uv w) : Calls Tryz.prog 49 #[.pointer (some ⟨V, 0, none⟩)] w fun e w' => e = .returned (.int .i64 l.length) ∧ w' = w := by
  obtain ⟨p, hB, v, hk, ho⟩ := h.at
  obtain ⟨_, c1, _, _⟩ := wr_cell hk
  obtain ⟨a, c, rfl⟩ := own_slice ho
  clear hk ho
  go_enter Tryz.func49, Tryz.ntmps49
  go_wp2
  go_ret
  exact ⟨rfl, rfl⟩
theorem wr_ne (hk : w.heap[V]? = some (.cells #[p, v, uv] 77 (0, 0))) {B' n : Nat} {v' : Value} {xs : List Value} (ho : w.ownsRow B' 5 1 v' n xs) : some V ≠ v'.ownBlock := by
  rcases ho.2 with ⟨rfl, _⟩ | ⟨g, cap, cur, rfl, _, h5, _⟩
  · simp [Value.ownBlock]
  · intro e
    simp only [Value.ownBlock, Option.some.injEq] at e
    subst e
    rw [hk] at h5
    cases h5
theorem grown_rest {w w2 : World} {B' n : Nat} {v' : Value} {xs : List Value} (ho : w.ownsRow B' 5 1 v' n xs) (hg : w.grownBy w2 v'.ownBlock) : ∀ (k : Nat) (o : Obj), w.heap[k]? = some o → keptO o = true → w2.heap[k]? = some o := fun k o hk hoo =>
  (hg.block k (Array.getElem?_eq_some_iff.1 hk).1 (fun e => by
    rcases ho.2 with ⟨rfl, _⟩ | ⟨g, cap, cur, rfl, _, h5, _⟩
    · simp [Value.ownBlock] at e
    · simp only [Value.ownBlock, Option.some.injEq] at e
      subst e
      rw [hk] at h5; cases h5; cases hoo)).trans hk
end

set_option maxHeartbeats 2000000 in
set_option maxRecDepth 100000 in
theorem writeString_any (B V : Nat) (l : List UInt8) (uv : Value) (s : ByteArray) (w : World) (h : IsWr B V l uv w) (hl : l.length ≤ 100000000) (hs : s.size ≤ 100000000) (hBw : B ≤ w.heap.size) :
    Calls Tryz.prog 46 #[.pointer (some ⟨V, 0, none⟩), .string s] w fun e w' => e = .returned (.tuple #[.int .i64 s.size, .nilIface]) ∧ WrAt B V (.pointer (some ⟨V, 0, none⟩)) (l ++ bytesOf s) uv w' ∧ Bel B w w' := by
  obtain ⟨i0, hi, hz0, hz1, hz2⟩ := info_parts Tryz.info5
  have HC := hide' (copyCheck_any h)
  clear h
  go_enter Tryz.func46, Tryz.ntmps46
  go_wp2_with (go_at_call 55; refine HC.out.mono ?_)
  rintro e w1 ⟨rfl, ⟨hB, v, hk, ho⟩, hb1⟩
  obtain ⟨c0, c1, c2, fz⟩ := wr_cell hk
  go_wp2_with (at_builtin; refine Lib.wpList_append_own_string _ rfl _ _ 73 9 rfl B 5 i0 Tryz.underlying73 Tryz.underlying9 hi hz0 hz1 hz2 _ _ _ rfl ho s rfl ?c3 ?c4 ?c5 ?_)
  case c3 => unfold maxLen; omega
  case c4 => omega
  case c5 => have := hb1.size; omega
  intro v' w2 hown' hgrow _
  have hk2 : w2.heap[V]? = some (.cells #[.pointer (some ⟨V, 0, none⟩), v, uv] 77 (0, 0)) := (hgrow.block V (Array.getElem?_eq_some_iff.1 hk).1 (wr_ne hk ho)).trans hk
  obtain ⟨d0, d1, d2, fz2⟩ := wr_cell hk2
  have hcells : Lib.byteCells l ++ Lib.strCells s = Lib.byteCells (l ++ bytesOf s) := by simp [Lib.byteCells, Lib.strCells, bytesOf]
  have hlen : l.length + s.size = (l ++ bytesOf s).length := by rw [List.length_append, length_bytesOf]
  obtain ⟨a', c', rfl⟩ := own_slice hown'
  go_wp2
  go_ret2
  rw [hcells, hlen] at hown'
  refine ⟨rfl, ⟨hB, _, set61 hk2 1 _, ?_⟩, ?_⟩
  · have := own_block (K := V) hown' hk2 (by decide) (w' := w2.setCell ⟨V, 1, none⟩ (.slice a' (l.length + s.size) c')) fun k _ hne => Below.heap_setCell w2 _ _ k hne
    rw [← hlen] at this ⊢
    exact this
  · refine hb1.trans ⟨((Below.refl B w1).grown hgrow (by have := hb1.size; omega) (fun k hk => (ho.lt k hk).1)).setCell (p := ⟨V, 1, none⟩) hB _, fun k o hk1 hoo => rest_set w2 _ _ k o (grown_rest ho hgrow k o hk1 hoo) hoo⟩
end Go.Proofs.YtpbalclhdhjnoaaGreatDoor
