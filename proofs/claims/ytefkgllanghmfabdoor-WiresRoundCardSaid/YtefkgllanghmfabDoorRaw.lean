/- The raw network, as the call's argument tells it, lies in the world. -/
import Derived.Test.YtefkgllanghmfabDoorNf2
import Derived.ProofKit
import Derived.OpenShut
import Derived.Deep.Slices
import Derived.Deep.Strs
import Derived.Lib.SmallJoins
namespace Go.Proofs.YtefkgllanghmfabDoor
open Go.ChangeShapes Go.WideShapes Go.ChangeAt Go.RowKit Go.Deep

section
variable {H : Type} {enc : TypeId × Value → H} {W : World} {base : Nat} {spare : Nat → Bool} {held : Bool}
theorem i64_wf {n : Int} (h : (Lit.int .i64 n).wf = true) : I64 n := bounds_i64 h
theorem addr_plain {p : Addr} {v : Value} (h : W.cell? p = some v) : p = ⟨p.block, p.off, none⟩ := by
  obtain ⟨b, o, s⟩ := p
  cases s with
  | none => rfl
  | some s =>
    unfold World.cell? at h
    split at h
    · simp at h
    · cases h
theorem plain_add (b o n : Nat) : (⟨b, o, none⟩ : Addr).add n = ⟨b, o + n, none⟩ := by
  unfold Addr.add
  split
  · next h => simp_all
  · rfl
theorem add_more (a : Addr) (m n : Nat) : (a.add m).add n = a.add (m + n) := by
  unfold Addr.add
  repeat' split
  all_goals simp_all
  all_goals omega
theorem three_cells {P : Program} {e fuel : Nat} {f0 f1 f2 : Field} {a : Addr} {i : Nat} {cs : List Value} {x : DataW H × List MemPlace} (he : P.underlying e = some (.struct #[f0, f1, f2])) (o0 : f0.offset = 0) (o1 : f1.offset = 1) (o2 : f2.offset = 2) (c0 : P.cellsOf f0.type = 1) (c1 : P.cellsOf f1.type = 1) (c2 : P.cellsOf f2.type = 1)
    (h1 : W.cells? base (a.add (i * 3)) 3 = some cs) (h2 : DataW.trod enc P W base spare held fuel e cs = some x) :
    ∃ v0 v1 v2 n y0 y1 y2, W.cell? (a.add (i * 3)) = some v0 ∧ W.cell? (a.add (i * 3 + 1)) = some v1 ∧ W.cell? (a.add (i * 3 + 2)) = some v2 ∧
      DataW.trod enc P W base spare held n f0.type [v0] = some y0 ∧ DataW.trod enc P W base spare held n f1.type [v1] = some y1 ∧ DataW.trod enc P W base spare held n f2.type [v2] = some y2 := by
  obtain ⟨_, hlen, hcell⟩ := World.cells?_some h1
  obtain ⟨y0, y1, y2, n, _, _, g0, g1, g2⟩ := trod_struct3 he h2
  match cs, hlen with
  | [v0, v1, v2], _ =>
    simp [o0, o1, o2, c0, c1, c2] at g0 g1 g2
    have e0 := hcell 0 (by omega)
    have e1 := hcell 1 (by omega)
    have e2 := hcell 2 (by omega)
    rw [add_more] at e0 e1 e2
    exact ⟨v0, v1, v2, n, y0, y1, y2, e0, e1, e2, g0, g1, g2⟩
theorem at_zero {a : Addr} {v : Value} (h : W.cell? (a.add (0 * 3)) = some v) : ∃ b o, a = ⟨b, o, none⟩ := by
  have e : a.add (0 * 3) = a := by simp [Addr.add]
  rw [e] at h
  exact ⟨_, _, addr_plain h⟩
set_option maxRecDepth 100000 in
set_option maxHeartbeats 1000000 in
theorem raw_of {r : Reach} {b0 : Nat} {v0 : Value} {d0 : DataW H} {p : List MemPlace} (hv : Value.okWide Tryd.prog W r b0 25 v0) (h : DataW.Trod enc Tryd.prog W base spare held 25 v0 d0 p) :
    ∃ nb a1 n1 c1 a2 n2 c2, v0 = .agg #[.int .i64 nb, .slice a1 n1 c1, .slice a2 n2 c2] ∧ RawAt W nb a1 n1 a2 n2 := by
  obtain ⟨u0, u1, u2, y0, y1, y2, n, rfl, _, _, g0, g1, g2⟩ := Go.Joins.open_agg3 Tryd.underlying25 (by kernel_rfl) (by kernel_rfl) hv h
  obtain ⟨nb, e0, _, wf0⟩ := DataW.trod_int Tryd.underlying3 g0
  cases e0
  have c3 : Tryd.prog.cellsOf 3 = 1 := by kernel_rfl
  have c4 : Tryd.prog.cellsOf 4 = 1 := by kernel_rfl
  have c46 : Tryd.prog.cellsOf 46 = 3 := by kernel_rfl
  have c50 : Tryd.prog.cellsOf 50 = 3 := by kernel_rfl
  have hl : ∃ a1 n1 c1, u1 = .slice a1 n1 c1 ∧ n1 ≤ 9223372036854775807 ∧ ∀ k, k < n1 → ∃ b o, a1 = some ⟨b, o, none⟩ ∧ ∃ f t x : Int, I64 f ∧ I64 t ∧ I64 x ∧ W.cell? ⟨b, o + k * 3, none⟩ = some (.int .i64 f) ∧ W.cell? ⟨b, o + k * 3 + 1, none⟩ = some (.int .i64 t) ∧ W.cell? ⟨b, o + k * 3 + 2, none⟩ = some (.int .i64 x) := by
    rcases open_slice Tryd.underlying22 g1 with ⟨h1, _⟩ | ⟨a, len, cap, m, nn, D, Pl, h1, _, hlc, hcm, hm, _, hx⟩
    · cases h1
      exact ⟨none, 0, 0, rfl, by omega, fun k hk => by omega⟩
    · cases h1
      refine ⟨some a, len, cap, rfl, by unfold maxLen at hcm; omega, fun k hk => ?_⟩
      have hpl : ∃ b o, a = ⟨b, o, none⟩ := by
        obtain ⟨cs, h1, h2⟩ := hx 0 (by rw [hm]; split <;> omega)
        rw [c46] at h1
        obtain ⟨v0, v1, v2, nn', z0, z1, z2, k0, _⟩ := three_cells Tryd.underlying46 rfl rfl rfl c3 c3 c3 h1 h2
        exact at_zero k0
      obtain ⟨cs, h1, h2⟩ := hx k (by rw [hm]; split <;> omega)
      rw [c46] at h1
      obtain ⟨v0, v1, v2, nn', z0, z1, z2, k0, k1, k2, t0, t1, t2⟩ := three_cells Tryd.underlying46 rfl rfl rfl c3 c3 c3 h1 h2
      obtain ⟨f, ef, _, wf⟩ := DataW.trod_int Tryd.underlying3 t0
      obtain ⟨t, et, _, wt⟩ := DataW.trod_int Tryd.underlying3 t1
      obtain ⟨x, ex, _, wx⟩ := DataW.trod_int Tryd.underlying3 t2
      cases ef; cases et; cases ex
      obtain ⟨b, o, rfl⟩ := hpl
      rw [plain_add] at k0 k1 k2
      exact ⟨b, o, rfl, f, t, x, i64_wf wf, i64_wf wt, i64_wf wx, k0, k1, k2⟩
  have ht : ∃ a2 n2 c2, u2 = .slice a2 n2 c2 ∧ n2 ≤ 9223372036854775807 ∧ ∀ k, k < n2 → ∃ b o, a2 = some ⟨b, o, none⟩ ∧ ∃ (f t : Int) (c : Bool), I64 f ∧ I64 t ∧ W.cell? ⟨b, o + k * 3, none⟩ = some (.int .i64 f) ∧ W.cell? ⟨b, o + k * 3 + 1, none⟩ = some (.int .i64 t) ∧ W.cell? ⟨b, o + k * 3 + 2, none⟩ = some (.bool c) := by
    rcases open_slice Tryd.underlying23 g2 with ⟨h1, _⟩ | ⟨a, len, cap, m, nn, D, Pl, h1, _, hlc, hcm, hm, _, hx⟩
    · cases h1
      exact ⟨none, 0, 0, rfl, by omega, fun k hk => by omega⟩
    · cases h1
      refine ⟨some a, len, cap, rfl, by unfold maxLen at hcm; omega, fun k hk => ?_⟩
      have hpl : ∃ b o, a = ⟨b, o, none⟩ := by
        obtain ⟨cs, h1, h2⟩ := hx 0 (by rw [hm]; split <;> omega)
        rw [c50] at h1
        obtain ⟨v0, v1, v2, nn', z0, z1, z2, k0, _⟩ := three_cells Tryd.underlying50 rfl rfl rfl c3 c3 c4 h1 h2
        exact at_zero k0
      obtain ⟨cs, h1, h2⟩ := hx k (by rw [hm]; split <;> omega)
      rw [c50] at h1
      obtain ⟨v0, v1, v2, nn', z0, z1, z2, k0, k1, k2, t0, t1, t2⟩ := three_cells Tryd.underlying50 rfl rfl rfl c3 c3 c4 h1 h2
      obtain ⟨f, ef, _, wf⟩ := DataW.trod_int Tryd.underlying3 t0
      obtain ⟨t, et, _, wt⟩ := DataW.trod_int Tryd.underlying3 t1
      obtain ⟨c, ec, _⟩ := DataW.trod_bool Tryd.underlying4 t2
      cases ef; cases et; cases ec
      obtain ⟨b, o, rfl⟩ := hpl
      rw [plain_add] at k0 k1 k2
      exact ⟨b, o, rfl, f, t, c, i64_wf wf, i64_wf wt, k0, k1, k2⟩
  obtain ⟨a1, n1, c1, rfl, le1, hl⟩ := hl
  obtain ⟨a2, n2, c2, rfl, le2, ht⟩ := ht
  exact ⟨nb, a1, n1, c1, a2, n2, c2, rfl, i64_wf wf0, le1, le2, hl, ht⟩
theorem RawAt.later {W W' : World} {nb : Int} {a1 a2 : Option Addr} {n1 n2 : Nat} (h : RawAt W nb a1 n1 a2 n2) (hb : Below W.heap.size W W') : RawAt W' nb a1 n1 a2 n2 := by
  have kp : ∀ {p v}, W.cell? p = some v → W'.cell? p = some v := fun hc => (hb.cell (World.block_lt_of_cell? W _ hc)).trans hc
  refine ⟨h.nb, h.le1, h.le2, fun k hk => ?_, fun k hk => ?_⟩
  · obtain ⟨b, o, e, f, t, x, w1, w2, w3, c1, c2, c3⟩ := h.lines k hk
    exact ⟨b, o, e, f, t, x, w1, w2, w3, kp c1, kp c2, kp c3⟩
  · obtain ⟨b, o, e, f, t, x, w1, w2, c1, c2, c3⟩ := h.ties k hk
    exact ⟨b, o, e, f, t, x, w1, w2, kp c1, kp c2, kp c3⟩
end
end Go.Proofs.YtefkgllanghmfabDoor
