/- The ties that are closed, as links: the program's list. -/
import Derived.Test.YtpbalclhdhjnoaaGreatDoorKBr8
import Derived.Test.YtpbalclhdhjnoaaGreatDoorKBra
import Derived.Test.YtpbalclhdhjnoaaGreatDoorKDc5
namespace Go.Proofs.YtpbalclhdhjnoaaGreatDoor.Bar
open Go.RowKit Go.Shelf Doc

def linksT (ts : List TieM) : Nat → List LinkM
  | 0 => []
  | k + 1 => match ts[k]? with
    | some t => if t.closed then linksT ts k ++ [⟨true, (k : Int), t.frm, t.to⟩] else linksT ts k
    | none => linksT ts k
/-- The network's box. -/
structure NBx (w W : World) (g : Array Value) : Prop where
  bel : Below w.heap.size w W
  box : W.heap[w.heap.size]? = some (.cells g 28 (0, 0))
theorem NBx.later {w W W' : World} {g : Array Value} (h : NBx w W g) (hb : Below W.heap.size W W') : NBx w W' g :=
  ⟨h.bel.trans (hb.mono h.bel.size), (hb.block _ (Array.getElem?_eq_some_iff.1 h.box).1).trans h.box⟩
theorem NBx.alloc {w W : World} {g : Array Value} (h : NBx w W g) (o : Obj) : NBx w (W.alloc o) g := h.later ((Below.refl _ W).alloc (Nat.le_refl _) o)
theorem NBx.grown {w W W' : World} {g : Array Value} (h : NBx w W g) {row : Option Nat} (hg : W.grownBy W' row) (hr : ∀ k, row = some k → w.heap.size < k) : NBx w W' g :=
  ⟨h.bel.grown hg h.bel.size (fun k e => Nat.le_of_lt (hr k e)), (hg.block _ (Array.getElem?_eq_some_iff.1 h.box).1 (fun e => absurd (hr _ e.symm) (Nat.lt_irrefl _))).trans h.box⟩
end Go.Proofs.YtpbalclhdhjnoaaGreatDoor.Bar

namespace Go.Proofs.YtpbalclhdhjnoaaGreatDoor.Bar
open Go.RowKit Go.Shelf Doc

theorem Tryz.info4 : (Tryz.prog.info? 4).map (fun i => (i.zero, i.size, i.bytes)) = some (some (.bool false), 1, 1) := by kernel_rfl
theorem Tryz.underlying29' : Tryz.prog.underlying 29 = some (.slice 4) := by kernel_rfl
theorem bools_one (out : List Bool) : ∀ u ∈ out.map Value.bool, u.oneCell' = true := by
  intro u hu
  obtain ⟨x, _, rfl⟩ := List.mem_map.1 hu
  rfl
theorem sides_any (out : List Bool) (v : Value) (w : World) (hx : RowAt w v out.length 1 (out.map Value.bool)) (hl : out.length ≤ 2000000) :
    Calls Tryz.prog 6 #[v] w fun e w' => ∃ v', e = .returned v' ∧ w'.ownsRow w.heap.size 4 1 v' out.length (out.map Value.bool) ∧ Below w.heap.size w w' := by
  obtain ⟨i0, hi0, hzz0, hzz1, hzz2⟩ := info_parts Tryz.info4
  obtain ⟨hn, ao, c, rfl, hc⟩ := hx
  have HC := hide' hc
  have HN := hide' hn
  clear hc hn
  go_enter Tryz.func6, Tryz.ntmps6
  go_wp2_with (at_builtin; refine wpList_append_all _ rfl _ _ 29 rfl w.heap.size 4 i0 _ 1 Tryz.underlying29' hi0 hzz0 hzz1 hzz2 rfl rfl ao out.length c (out.map Value.bool) rfl HN.out HC.out (bools_one out) (by unfold maxLen; omega) (by omega) (Nat.le_refl _) ?_; intro v' w3 hown' hgrow; refine Still.go ?_)
  unfold Still
  have HB : Hid (Below w.heap.size w w3) := (Below.refl _ w).grown hgrow (Nat.le_refl _) (fun k e => by cases e)
  have HO := hide' hown'
  clear hgrow hown'
  go_wp2
  go_ret
  exact ⟨v', rfl, HO.out, HB.out⟩
theorem ints_cell {w : World} {v : Value} {l : List Int} (h : RowAt w v l.length 1 (ints l)) (k : Nat) (hk : k < l.length) : ∃ b off c, v = .slice (some ⟨b, off, none⟩) l.length c ∧ w.cell? ⟨b, off + k, none⟩ = some (.int .i64 (l.getD k 0)) := by
  obtain ⟨-, a, c, rfl, hc⟩ := h
  obtain ⟨b, off, rfl, hcell⟩ := hc k (.int .i64 (l.getD k 0)) (by rw [ints, List.getElem?_map, (getD_in hk).1]; rfl)
  exact ⟨b, off, c, rfl, hcell⟩
set_option maxRecDepth 100000 in
set_option maxHeartbeats 2000000 in
theorem sameInts_any (l : List Int) (va vb : Value) (w : World) (ha : RowAt w va l.length 1 (ints l)) (hb : RowAt w vb l.length 1 (ints l)) (hl : l.length ≤ 1000) :
    Calls Tryz.prog 8 #[va, vb] w fun e w' => e = .returned (.bool true) ∧ ∃ q, w' = w.drewN q := by
  have HA := hide' ha
  have HB := hide' hb
  obtain ⟨aa, ca, rfl⟩ := rowAt_slice ha
  obtain ⟨ab, cb, rfl⟩ := rowAt_slice hb
  clear ha hb
  go_enter Tryz.func8, Tryz.ntmps8
  go_wp2_with fail
  go_loopw [5] (fun i wr => ∃ (k : Nat), i = .int .i64 k ∧ k ≤ l.length ∧ ∃ q, wr = w.drewN q) (fun i _ => l.length - (intOf i).toNat)
  case atStart => exact ⟨0, rfl, Nat.zero_le _, 0, rfl⟩
  case round =>
    obtain ⟨k, rfl, hk, q, rfl⟩ := hrel
    by_cases hlt : k < l.length
    · obtain ⟨b1, o1, c1, e1, h1⟩ := ints_cell HA.out k hlt
      cases e1
      obtain ⟨b2, o2, c2, e2, h2⟩ := ints_cell HB.out k hlt
      cases e2
      obtain ⟨x, hx⟩ : ∃ x, x = l.getD k 0 := ⟨_, rfl⟩
      rw [← hx] at h1 h2
      clear hx
      go_wp2_with fail
      go_region
      go_wp2
      go_roundw
      case rel => exact ⟨k + 1, by go_num, by omega, q + 1, rfl⟩
      case measure => simp [intOf]; omega
    · go_wp2
      go_ret
      exact ⟨rfl, q, rfl⟩
theorem MayM.ends {N : NetM} (h : MayM N) : EndsM N := ⟨fun l hl => by have := h.lines l hl; omega, fun l hl => by have := h.ties l hl; omega⟩

end Go.Proofs.YtpbalclhdhjnoaaGreatDoor.Bar
