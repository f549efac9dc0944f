/- For every raw network, every list of signs and every two numbers, BarsLead answers true: between two buses of the network made of them there is a way just where both lie in one island, each hop of it is a closed tie or a line in service and leads on from where the last one ended, it ends at the second bus, and the way back has as many hops; the arguments read afterwards as they did before. Conditions: the listed package-level variables of the library hold what their initialisers lay (the card ties them to the program). -/
import Derived.Test.YtjcpcjickdcpmacGreatDoorKM2
import Derived.ProofKit
import Derived.OpenShut
import Derived.Deep.Slices
import Derived.Deep.Strs
import Derived.Lib.SmallJoins
import Derived.BigQuiet
import Derived.Test.YtjcpcjickdcpmacGreatDoorKM1
import Derived.Carry
import Derived.Test.YtjcpcjickdcpmacGreatDoorKDc9
import Derived.Test.YtjcpcjickdcpmacGreatDoorCards
import Derived.Test.YtjcpcjickdcpmacGreatDoorTie
import Derived.Deep.DeepWitnessRowRef
import Derived.Lib.LaidIn
import Derived.Lib.LaidTab
import Derived.Stop.LaidErr
import Derived.Shelf.Vars
namespace Go.Proofs.YtjcpcjickdcpmacGreatDoor
open Go.ChangeShapes Go.WideShapes Go.ChangeAt Go.RowKit Go.Deep

section
variable {H : Type} {enc : TypeId × Value → H} {W : World} {base : Nat} {spare : Nat → Bool} {held : Bool}
theorem i64_wf {n : Int} (h : (Lit.int .i64 n).wf = true) : I64 n := bounds_i64 h
theorem addr_plain {p : Addr} {v : Value} (h : W.cell? p = some v) : p = ⟨p.block, p.off, none⟩ := by
  obtain ⟨b, o, s⟩ := p
  cases s with
  | none => rfl
  | some s =>
    unfold World.cell? at h
    split at h
    · simp at h
    · cases h
theorem plain_add (b o n : Nat) : (⟨b, o, none⟩ : Addr).add n = ⟨b, o + n, none⟩ := by
  unfold Addr.add
  split
  · next h => simp_all
  · rfl
theorem add_more (a : Addr) (m n : Nat) : (a.add m).add n = a.add (m + n) := by
  unfold Addr.add
  repeat' split
  all_goals simp_all
  all_goals omega
theorem three_cells {P : Program} {e fuel : Nat} {f0 f1 f2 : Field} {a : Addr} {i : Nat} {cs : List Value} {x : DataW H × List MemPlace} (he : P.underlying e = some (.struct #[f0, f1, f2])) (o0 : f0.offset = 0) (o1 : f1.offset = 1) (o2 : f2.offset = 2) (c0 : P.cellsOf f0.type = 1) (c1 : P.cellsOf f1.type = 1) (c2 : P.cellsOf f2.type = 1)
    (h1 : W.cells? base (a.add (i * 3)) 3 = some cs) (h2 : DataW.trod enc P W base spare held fuel e cs = some x) :
    ∃ v0 v1 v2 n y0 y1 y2, W.cell? (a.add (i * 3)) = some v0 ∧ W.cell? (a.add (i * 3 + 1)) = some v1 ∧ W.cell? (a.add (i * 3 + 2)) = some v2 ∧
      DataW.trod enc P W base spare held n f0.type [v0] = some y0 ∧ DataW.trod enc P W base spare held n f1.type [v1] = some y1 ∧ DataW.trod enc P W base spare held n f2.type [v2] = some y2 := by
  obtain ⟨_, hlen, hcell⟩ := World.cells?_some h1
  obtain ⟨y0, y1, y2, n, _, _, g0, g1, g2⟩ := trod_struct3 he h2
  match cs, hlen with
  | [v0, v1, v2], _ =>
    simp [o0, o1, o2, c0, c1, c2] at g0 g1 g2
    have e0 := hcell 0 (by omega)
    have e1 := hcell 1 (by omega)
    have e2 := hcell 2 (by omega)
    rw [add_more] at e0 e1 e2
    exact ⟨v0, v1, v2, n, y0, y1, y2, e0, e1, e2, g0, g1, g2⟩
theorem at_zero {a : Addr} {v : Value} (h : W.cell? (a.add (0 * 3)) = some v) : ∃ b o, a = ⟨b, o, none⟩ := by
  have e : a.add (0 * 3) = a := by simp [Addr.add]
  rw [e] at h
  exact ⟨_, _, addr_plain h⟩
set_option maxRecDepth 100000 in
set_option maxHeartbeats 1000000 in
theorem raw_of {r : Reach} {b0 : Nat} {v0 : Value} {d0 : DataW H} {p : List MemPlace} (hv : Value.okWide Tryz.prog W r b0 25 v0) (h : DataW.Trod enc Tryz.prog W base spare held 25 v0 d0 p) :
    ∃ nb a1 n1 c1 a2 n2 c2, v0 = .agg #[.int .i64 nb, .slice a1 n1 c1, .slice a2 n2 c2] ∧ RawAt W nb a1 n1 a2 n2 := by
  obtain ⟨u0, u1, u2, y0, y1, y2, n, rfl, _, _, g0, g1, g2⟩ := Go.Joins.open_agg3 Tryz.underlying25 (by kernel_rfl) (by kernel_rfl) hv h
  obtain ⟨nb, e0, _, wf0⟩ := DataW.trod_int Tryz.underlying3 g0
  cases e0
  have c3 : Tryz.prog.cellsOf 3 = 1 := by kernel_rfl
  have c4 : Tryz.prog.cellsOf 4 = 1 := by kernel_rfl
  have c46 : Tryz.prog.cellsOf 53 = 3 := by kernel_rfl
  have c50 : Tryz.prog.cellsOf 55 = 3 := by kernel_rfl
  have hl : ∃ a1 n1 c1, u1 = .slice a1 n1 c1 ∧ n1 ≤ 9223372036854775807 ∧ ∀ k, k < n1 → ∃ b o, a1 = some ⟨b, o, none⟩ ∧ ∃ f t x : Int, I64 f ∧ I64 t ∧ I64 x ∧ W.cell? ⟨b, o + k * 3, none⟩ = some (.int .i64 f) ∧ W.cell? ⟨b, o + k * 3 + 1, none⟩ = some (.int .i64 t) ∧ W.cell? ⟨b, o + k * 3 + 2, none⟩ = some (.int .i64 x) := by
    rcases open_slice Tryz.underlying22 g1 with ⟨h1, _⟩ | ⟨a, len, cap, m, nn, D, Pl, h1, _, hlc, hcm, hm, _, hx⟩
    · cases h1
      exact ⟨none, 0, 0, rfl, by omega, fun k hk => by omega⟩
    · cases h1
      refine ⟨some a, len, cap, rfl, by unfold maxLen at hcm; omega, fun k hk => ?_⟩
      have hpl : ∃ b o, a = ⟨b, o, none⟩ := by
        obtain ⟨cs, h1, h2⟩ := hx 0 (by rw [hm]; split <;> omega)
        rw [c46] at h1
        obtain ⟨v0, v1, v2, nn', z0, z1, z2, k0, _⟩ := three_cells Tryz.underlying53 rfl rfl rfl c3 c3 c3 h1 h2
        exact at_zero k0
      obtain ⟨cs, h1, h2⟩ := hx k (by rw [hm]; split <;> omega)
      rw [c46] at h1
      obtain ⟨v0, v1, v2, nn', z0, z1, z2, k0, k1, k2, t0, t1, t2⟩ := three_cells Tryz.underlying53 rfl rfl rfl c3 c3 c3 h1 h2
      obtain ⟨f, ef, _, wf⟩ := DataW.trod_int Tryz.underlying3 t0
      obtain ⟨t, et, _, wt⟩ := DataW.trod_int Tryz.underlying3 t1
      obtain ⟨x, ex, _, wx⟩ := DataW.trod_int Tryz.underlying3 t2
      cases ef; cases et; cases ex
      obtain ⟨b, o, rfl⟩ := hpl
      rw [plain_add] at k0 k1 k2
      exact ⟨b, o, rfl, f, t, x, i64_wf wf, i64_wf wt, i64_wf wx, k0, k1, k2⟩
  have ht : ∃ a2 n2 c2, u2 = .slice a2 n2 c2 ∧ n2 ≤ 9223372036854775807 ∧ ∀ k, k < n2 → ∃ b o, a2 = some ⟨b, o, none⟩ ∧ ∃ (f t : Int) (c : Bool), I64 f ∧ I64 t ∧ W.cell? ⟨b, o + k * 3, none⟩ = some (.int .i64 f) ∧ W.cell? ⟨b, o + k * 3 + 1, none⟩ = some (.int .i64 t) ∧ W.cell? ⟨b, o + k * 3 + 2, none⟩ = some (.bool c) := by
    rcases open_slice Tryz.underlying23 g2 with ⟨h1, _⟩ | ⟨a, len, cap, m, nn, D, Pl, h1, _, hlc, hcm, hm, _, hx⟩
    · cases h1
      exact ⟨none, 0, 0, rfl, by omega, fun k hk => by omega⟩
    · cases h1
      refine ⟨some a, len, cap, rfl, by unfold maxLen at hcm; omega, fun k hk => ?_⟩
      have hpl : ∃ b o, a = ⟨b, o, none⟩ := by
        obtain ⟨cs, h1, h2⟩ := hx 0 (by rw [hm]; split <;> omega)
        rw [c50] at h1
        obtain ⟨v0, v1, v2, nn', z0, z1, z2, k0, _⟩ := three_cells Tryz.underlying55 rfl rfl rfl c3 c3 c4 h1 h2
        exact at_zero k0
      obtain ⟨cs, h1, h2⟩ := hx k (by rw [hm]; split <;> omega)
      rw [c50] at h1
      obtain ⟨v0, v1, v2, nn', z0, z1, z2, k0, k1, k2, t0, t1, t2⟩ := three_cells Tryz.underlying55 rfl rfl rfl c3 c3 c4 h1 h2
      obtain ⟨f, ef, _, wf⟩ := DataW.trod_int Tryz.underlying3 t0
      obtain ⟨t, et, _, wt⟩ := DataW.trod_int Tryz.underlying3 t1
      obtain ⟨c, ec, _⟩ := DataW.trod_bool Tryz.underlying4 t2
      cases ef; cases et; cases ec
      obtain ⟨b, o, rfl⟩ := hpl
      rw [plain_add] at k0 k1 k2
      exact ⟨b, o, rfl, f, t, c, i64_wf wf, i64_wf wt, k0, k1, k2⟩
  obtain ⟨a1, n1, c1, rfl, le1, hl⟩ := hl
  obtain ⟨a2, n2, c2, rfl, le2, ht⟩ := ht
  exact ⟨nb, a1, n1, c1, a2, n2, c2, rfl, i64_wf wf0, le1, le2, hl, ht⟩
theorem RawAt.later {W W' : World} {nb : Int} {a1 a2 : Option Addr} {n1 n2 : Nat} (h : RawAt W nb a1 n1 a2 n2) (hb : Below W.heap.size W W') : RawAt W' nb a1 n1 a2 n2 := by
  have kp : ∀ {p v}, W.cell? p = some v → W'.cell? p = some v := fun hc => (hb.cell (World.block_lt_of_cell? W _ hc)).trans hc
  refine ⟨h.nb, h.le1, h.le2, fun k hk => ?_, fun k hk => ?_⟩
  · obtain ⟨b, o, e, f, t, x, w1, w2, w3, c1, c2, c3⟩ := h.lines k hk
    exact ⟨b, o, e, f, t, x, w1, w2, w3, kp c1, kp c2, kp c3⟩
  · obtain ⟨b, o, e, f, t, x, w1, w2, c1, c2, c3⟩ := h.ties k hk
    exact ⟨b, o, e, f, t, x, w1, w2, kp c1, kp c2, kp c3⟩
end
end Go.Proofs.YtjcpcjickdcpmacGreatDoor

/- BarsClose: at whatever raw network, to close a tie makes one node of two, or changes nothing; nodes lie in islands. -/
namespace Go.Proofs.YtjcpcjickdcpmacGreatDoor.Bar
open Go.RowKit Go.Shelf Doc

/-- A list of numbers in a row of so many. -/
theorem row_n {w : World} {a : Option Addr} {c n : Nat} {l : List Int} (h : RowAt w (.slice a n c) n 1 (ints l)) (hl : l.length = n) {k : Nat} (hk : k < n) : ∃ b off, a = some ⟨b, off, none⟩ ∧ w.cell? ⟨b, off + k, none⟩ = some (.int .i64 (l.getD k 0)) := by
  subst hl
  obtain ⟨b, off, c', e, hc⟩ := ints_cell h k hk
  cases e
  exact ⟨b, off, rfl, hc⟩
theorem answers_n {l : List Int} {code : Int} {n : Nat} {w : World} {e : Ending} {w' : World} (h : Answers l code w e w') (hl : l.length = n) : ∃ a c, e = .returned (.tuple #[.slice a n c, .int .i64 code]) ∧ RowAt w' (.slice a n c) n 1 (ints l) ∧ Below w.heap.size w w' := by
  subst hl
  exact answers_row h
theorem row_all {w : World} {a : Option Addr} {c n : Nat} {l : List Int} (h : RowAt w (.slice a n c) n 1 (ints l)) (hl : l.length = n) (hn : 0 < n) : ∃ b off, a = some ⟨b, off, none⟩ ∧ ∀ k, k < n → w.cell? ⟨b, off + k, none⟩ = some (.int .i64 (l.getD k 0)) := by
  obtain ⟨b, off, e, _⟩ := row_n h hl hn
  refine ⟨b, off, e, fun k hk => ?_⟩
  obtain ⟨b', off', e', hc⟩ := row_n h hl hk
  rw [e] at e'
  cases e'
  exact hc
end Go.Proofs.YtjcpcjickdcpmacGreatDoor.Bar

/- BarsLead: at whatever raw network, a way leads, hop by hop, over what is closed and in service; there is one just within an island; the way back is as long. -/
namespace Go.Proofs.YtjcpcjickdcpmacGreatDoor.Bar
open Go.RowKit Go.Shelf Doc

set_option maxRecDepth 100000 in
set_option maxHeartbeats 8000000 in
theorem BarsLead_any (nb : Int) (a1 a2 : Option Addr) (n1 c1 n2 c2 : Nat) (outv : Value) (out : List Bool) (ka kb : Int) (mx : Int) (w : World) (hraw : RawAt w nb a1 n1 a2 n2) (hka : I64 ka) (hkb : I64 kb) (htb : TabAll w) (hm : w.cell? ⟨1, 0, none⟩ = some (.int .i64 mx)) (hor : RowAt w outv out.length 1 (out.map Value.bool)) :
    Calls Tryz.prog 3 #[.agg #[.int .i64 nb, .slice a1 n1 c1, .slice a2 n2 c2], outv, .int .i64 ka, .int .i64 kb] w fun e w' => e = .returned (.bool true) ∧ Below w.heap.size w w' := by
  obtain ⟨W0, hW0⟩ : ∃ W0, W0 = w.alloc (.cells #[.int .i64 nb, .slice a1 n1 c1, .slice a2 n2 c2] 25) := ⟨_, rfl⟩
  have hb0 : Below w.heap.size w W0 := by rw [hW0]; exact (Below.refl _ w).alloc (Nat.le_refl _) _
  have HNF := hide' (NetFrom_any nb a1 a2 n1 c1 n2 c2 W0 (hraw.later hb0))
  have h1w : 1 < w.heap.size := World.block_lt_of_cell? w _ hm
  have HKM : Hid (∀ W', Below w.heap.size w W' → W'.cell? ⟨1, 0, none⟩ = some (.int .i64 mx)) := fun W' h => (h.cell (p := ⟨1, 0, none⟩) h1w).trans hm
  have HKO : Hid (∀ W', Below w.heap.size w W' → RowAt W' outv out.length 1 (out.map Value.bool)) := fun W' h => RowAt.below hor h (Nat.le_refl _)
  have HTB := hide' htb
  have HB0 := hide' hb0
  have HW0 := hide' hW0
  have HKA := hide' hka
  have HKB := hide' hkb
  clear hW0 hb0 hraw htb hm h1w hor hka hkb
  go_enter Tryz.func3, Tryz.ntmps3
  go_wp2_with fail
  rw [← HW0.out]
  refine HNF.out.mono ?_
  rintro e w1 ⟨N, vb, vl, vg, vd, vt, rfl, ⟨hG, hn2⟩, ho1, hb1⟩
  obtain ⟨ab, cb, rfl⟩ := own_slice ho1.hb
  obtain ⟨al, cl, rfl⟩ := own_slice ho1.hl
  obtain ⟨ag, cg, rfl⟩ := own_slice ho1.hg
  obtain ⟨ad, cd, rfl⟩ := own_slice ho1.hd
  obtain ⟨at', ct, rfl⟩ := own_slice ho1.ht
  obtain ⟨W1, hW1⟩ : ∃ W1, W1 = w1.alloc (.cells #[.string N.name, .slice ab N.buses.length cb, .slice al N.lines.length cl, .slice ag N.gens.length cg, .slice ad N.loads.length cd, .slice at' N.ties.length ct] 33) := ⟨_, rfl⟩
  have HBW1 : Hid (Below w.heap.size w W1) := by
    have h9 := HB0.out.trans (hb1.mono HB0.out.size)
    rw [hW1]; exact h9.alloc h9.size _
  have HBX1 : Hid (W1.heap[w1.heap.size]? = some (.cells #[.string N.name, .slice ab N.buses.length cb, .slice al N.lines.length cl, .slice ag N.gens.length cg, .slice ad N.loads.length cd, .slice at' N.ties.length ct] 33 (0, 0))) := by rw [hW1]; exact World.alloc_heap_new w1 _
  have HO1 : Hid (Owns W1 W0.heap.size (.slice ab N.buses.length cb) (.slice al N.lines.length cl) (.slice ag N.gens.length cg) (.slice ad N.loads.length cd) (.slice at' N.ties.length ct) N) := by rw [hW1]; exact ⟨ho1.hb.alloc _, ho1.hl.alloc _, ho1.hg.alloc _, ho1.hd.alloc _, ho1.ht.alloc _⟩
  have HG := hide' hG
  have HMay := hide' (good_may hG)
  have HSM := hide' (good_small hG)
  have HE := hide' (MayM.ends (good_may hG))
  have HOF := hide' (OutFrom_any N _ outv out W1 (owns_net HO1.out) HMay.out.fits (HKO.out _ HBW1.out))
  have hn16 : N.buses.length ≤ 16 := hG.fits.1
  have ht24 : N.ties.length ≤ 24 := hG.fits.2.2
  have hl30 : N.lines.length ≤ 30 := hG.fits.2.1
  obtain ⟨xN, hxn, hpA⟩ := picked_is ka N.buses.length HKA.out.1 HKA.out.2 (by omega) (by omega)
  obtain ⟨yN, hyn, hpB⟩ := picked_is kb N.buses.length HKB.out.1 HKB.out.2 (by omega) (by omega)
  have HPA := hide' hpA
  have HPB := hide' hpB
  have HW1 := hide' hW1
  clear hW1 hG ho1 hb1 HNF hpA hpB
  go_wp2_with fail
  rw [← HW1.out]
  refine HOF.out.mono ?_
  rintro e w2 ⟨o, ao, co, hol2, rfl, hrow2, hb2⟩
  have HBW2 : Hid (Below w.heap.size w w2) := HBW1.out.trans (hb2.mono HBW1.out.size)
  have HO2 := hide' (owns_later HO1.out hb2)
  have hbx2 := (hb2.block _ (Array.getElem?_eq_some_iff.1 HBX1.out).1).trans HBX1.out
  obtain ⟨k0, k1, k2, k3, k4, k5, kf⟩ := cells28 hbx2
  have HBX2 := hide' hbx2
  have HR2 := hide' hrow2
  have HOL2 := hide' hol2
  have ho30 : o.length ≤ 30 := by omega
  clear hbx2 hrow2 hb2 HOF HBX1 hol2
  go_wp2_with fail
  go_quiet ((first | (go_at_call_of 6 (Value.int IntKind.i64 ka); exact Calls.quiet_of_same (HPA.out _)) | (go_at_call_of 6 (Value.int IntKind.i64 kb); exact Calls.quiet_of_same (HPB.out _))))
  obtain ⟨W2, hW2⟩ : ∃ W2, W2 = w2.drewN nq := ⟨_, rfl⟩
  rw [← hW2]
  have hb2 : Below w2.heap.size w2 W2 := by rw [hW2]; exact below_drewN (Below.refl _ w2) nq
  have HBV2 : Hid (Below w.heap.size w W2) := HBW2.out.trans (hb2.mono HBW2.out.size)
  have HOV2 := hide' (owns_later HO2.out hb2)
  have hbv2 := (hb2.block _ (Array.getElem?_eq_some_iff.1 HBX2.out).1).trans HBX2.out
  clear k0 k1 k2 k3 k4 k5 kf
  obtain ⟨k0, k1, k2, k3, k4, k5, kf⟩ := cells28 hbv2
  have HBX := hide' hbv2
  have HRV2 := hide' (RowAt.below HR2.out hb2 (Nat.le_refl _))
  have HIS := hide' (Islands_any N _ _ _ _ _ _ (.slice ao o.length co) o mx W2 HSM.out (HTB.out.later HBV2.out) HOV2.out (HKM.out _ HBV2.out) HRV2.out (by omega))
  clear hW2 hb2 hbv2 HBW2 HO2 HBX2 HR2 HO1 HBW1
  go_wp2_with fail
  refine HIS.out.mono ?_
  intro e w3 hans
  obtain ⟨ae, ce, rfl, hrowB, hb3⟩ := answers_n (hans.1 HMay.out HOL2.out) (groupsL_len _ _)
  have HBW3 : Hid (Below w.heap.size w w3) := HBV2.out.trans (hb3.mono HBV2.out.size)
  have HO3 := hide' (owns_later HOV2.out hb3)
  have hbx3 := (hb3.block _ (Array.getElem?_eq_some_iff.1 HBX.out).1).trans HBX.out
  have HR3 := hide' (RowAt.below HRV2.out hb3 (Nat.le_refl _))
  have HRB := hide' hrowB
  obtain ⟨ls, code, hw⟩ := wayIs_some N o (xN : Int) (yN : Int)
  have HWY := hide' (Way_any N _ _ _ _ _ _ (.slice ao o.length co) o (xN : Int) (yN : Int) ls code mx w3 HSM.out (HTB.out.later HBW3.out) HO3.out (HKM.out _ HBW3.out) HR3.out (by omega) hw)
  have HWI := hide' hw
  clear k0 k1 k2 k3 k4 k5 kf
  obtain ⟨k0, k1, k2, k3, k4, k5, kf⟩ := cells28 hbx3
  have HBX3 := hide' hbx3
  clear hbx3 hrowB hb3 hans HIS HBX HOV2 HRV2 HBV2 hw
  go_wp2_with fail
  refine HWY.out.mono ?_
  rintro e w4 ⟨aw, cw, rfl, hrowW, hb4⟩
  have HBW4 : Hid (Below w.heap.size w w4) := HBW3.out.trans (hb4.mono HBW3.out.size)
  have HO4 := hide' (owns_later HO3.out hb4)
  have hbx4 := (hb4.block _ (Array.getElem?_eq_some_iff.1 HBX3.out).1).trans HBX3.out
  have HR4 := hide' (RowAt.below HR3.out hb4 (Nat.le_refl _))
  have HRW := hide' hrowW
  have HRB4 := hide' (RowAt.below HRB.out hb4 (Nat.le_refl _))
  have HLB := hide' (groupsL_len N.buses.length (serviceL N o))
  have hiff := far_groups (serviceL_ends HE.out o) (a := yN) (b := xN) hyn hxn
  obtain ⟨b2, o2, rfl, hcB⟩ := row_all HRB4.out HLB.out (by omega)
  have z1 := hcB xN hxn
  have z2 := hcB yN hyn
  obtain ⟨u1, hu1⟩ : ∃ u, u = (groupsL N.buses.length (serviceL N o)).getD xN 0 := ⟨_, rfl⟩
  obtain ⟨u2, hu2⟩ : ∃ u, u = (groupsL N.buses.length (serviceL N o)).getD yN 0 := ⟨_, rfl⟩
  rw [← hu1] at z1
  rw [← hu2] at z2
  rw [← hu1, ← hu2] at hiff
  have HIFF := hide' hiff
  clear k0 k1 k2 k3 k4 k5 kf
  obtain ⟨k0, k1, k2, k3, k4, k5, kf⟩ := cells28 hbx4
  have HBX4 := hide' hbx4
  clear hbx4 hrowW hb4 HWY HR3 HO3 HBX3 HRB hcB hu1 hu2 hiff HBW3
  rcases HWI.out with ⟨h, _⟩ | ⟨_, h, _⟩ | ⟨_, _, h, _⟩ | ⟨-, -, x, y, hx, hy, -, -, hf, rfl, rfl⟩ | ⟨-, -, x, y, hx, hy, -, -, hf, hl, rfl⟩
  · exact absurd HMay.out h
  · exact absurd HOL2.out h
  · exact absurd ⟨by omega, by omega, by omega, by omega⟩ h
  · obtain rfl : xN = x := by omega
    obtain rfl : yN = y := by omega
    have hne := HIFF.out.1 hf
    have hb : (u1 == u2) = false := beq_eq_false_iff_ne.2 (fun e => hne e.symm)
    clear hf hne hx hy HWI
    go_wp2_with fail
    go_quiet (fail)
    go_wp2
    go_ret
    exact ⟨rfl, below_drewN HBW4.out _⟩
  · obtain rfl : xN = x := by omega
    obtain rfl : yN = y := by omega
    have heq : u1 = u2 := Classical.byContradiction fun h => hf (HIFF.out.2 (fun e => h e.symm))
    subst heq
    obtain ⟨K, hK⟩ : ∃ K : Nat, (farL N.buses.length (serviceL N o) yN).getD xN 0 = (K : Int) := ⟨((farL N.buses.length (serviceL N o) yN).getD xN 0).toNat, by have := (far_spec (serviceL_ends HE.out o) hyn).2.1 xN hxn; omega⟩
    have hKn : K < N.buses.length := by have := (far_spec (serviceL_ends HE.out o) hyn).2.1 xN hxn; omega
    rw [hK, Int.toNat_natCast] at hl
    have hll : ls.length = K := by rw [hl]; exact wayL_length (serviceL_ends HE.out o) hyn K xN hxn hK
    have HFK := hide' hK
    have HL := hide' hl
    have HLL := hide' hll
    have HF0 := hide' hf
    clear hf hl hK hx hy HWI HIFF
    rw [hll] at HRW ⊢
    clear hll
    go_wp2_with fail
    go_quiet (fail)
    obtain ⟨W5, hW5⟩ : ∃ W5, W5 = w4.drewN nq := ⟨_, rfl⟩
    rw [← hW5]
    have HB5 : Hid (Below w4.heap.size w4 W5) := by rw [hW5]; exact below_drewN (Below.refl _ w4) nq
    clear hW5
    go_wp2_with fail
    go_loopw [17, 18] (fun av iv wr => ∃ (i u : Nat), av = .int .i64 u ∧ iv = .int .i64 i ∧ i ≤ K ∧ u < N.buses.length ∧ Hid ((farL N.buses.length (serviceL N o) yN).getD u 0 = ((K - i : Nat) : Int)) ∧ Hid (ls.drop i = wayL (serviceL N o) (farL N.buses.length (serviceL N o) yN) (K - i) (u : Int)) ∧ Hid (Below w4.heap.size w4 wr)) (fun _ iv _ => K - (intOf iv).toNat)
    case atStart => exact ⟨0, xN, rfl, rfl, Nat.zero_le _, hxn, HFK.out, HL.out, HB5⟩
    case round =>
      clear HB5
      obtain ⟨i, u, rfl, rfl, hi, hu, HFU, HDU, HBR⟩ := hrel
      have upr : ∀ (c : Addr) (z : Value), w4.cell? c = some z → wr.cell? c = some z := fun c z h => (HBR.out.cell (World.block_lt_of_cell? w4 _ h)).trans h
      have up : ∀ (o' : Obj) (c : Addr) (z : Value), w4.cell? c = some z → (wr.alloc o').cell? c = some z := fun o' c z h => ((HBR.out.alloc HBR.out.size o').cell (World.block_lt_of_cell? w4 _ h)).trans h
      by_cases hlt : i < K
      · obtain ⟨k', hk'⟩ : ∃ k', K - i = k' + 1 := ⟨K - i - 1, by omega⟩
        have h1 := HFU.out
        rw [hk'] at h1
        have h2 := HDU.out
        rw [hk'] at h2
        obtain ⟨l, v, hli, hlm, hv, hfv, hdv, hends0⟩ := way_hop (serviceL_ends HE.out o) hyn hu h1 h2
        have HF2 : Hid ((farL N.buses.length (serviceL N o) yN).getD v 0 = ((K - (i + 1) : Nat) : Int)) := by
          show _ = _
          rw [show K - (i + 1) = k' by omega]; exact hfv
        have HD2 : Hid (ls.drop (i + 1) = wayL (serviceL N o) (farL N.buses.length (serviceL N o) yN) (K - (i + 1)) (v : Int)) := by
          show _ = _
          rw [show K - (i + 1) = k' by omega]; exact hdv
        have hil : i < ls.length := by rw [HLL.out]; exact hlt
        obtain ⟨bw, ow, cw', ew, _, hcw⟩ := row_elem (f := hopCells) (fun _ => rfl) HRW.out i hil (by decide)
        cases ew
        have hle : ls[i] = l := by
          have h9 := List.getElem?_eq_getElem hil
          rw [hli] at h9
          injection h9 with h9
          exact h9.symm
        rw [hle] at hcw
        have g0 := hcw 0 _ rfl
        have g1 := hcw 1 _ rfl
        rw [Nat.add_zero] at g0
        clear hcw hle h1 h2 hfv hdv hil hk' HFU HDU
        rcases service_mem hlm with ⟨j, t, hj, hc, rfl⟩ | ⟨j, t, hj, hc, rfl⟩
        · skip
          have g0' : ∀ o', (wr.alloc o').cell? ⟨bw, ow + i * 2, none⟩ = some (.bool false) := fun o' => up o' _ _ g0
          have g0'' : wr.cell? ⟨bw, ow + i * 2, none⟩ = some (.bool false) := upr _ _ g0
          have g1'' : wr.cell? ⟨bw, ow + i * 2 + 1, none⟩ = some (.int .i64 (j : Int)) := upr _ _ g1
          have hjl : j < N.lines.length := (List.getElem?_eq_some_iff.1 hj).1
          obtain ⟨bt, ot, c9, ex, _, hct⟩ := row_elem (f := LineM.cells) (fun _ => rfl) (rowAt_of_own HO4.out.hl) j hjl (by decide)
          cases ex
          have hje : N.lines[j] = t := by
            have h9 := List.getElem?_eq_getElem hjl
            rw [hj] at h9
            injection h9 with h9
            exact h9.symm
          rw [hje] at hct
          have hen := HG.out.lines t (List.mem_of_getElem? hj)
          obtain ⟨pN, hpN⟩ := Int.eq_ofNat_of_zero_le hen.1
          obtain ⟨qN, hqN⟩ := Int.eq_ofNat_of_zero_le hen.2.2.1
          have hpq : pN ≠ qN := fun e => hen.2.2.2.2.1 (by rw [hpN, hqN, e])
          have d1 : ∀ o', (wr.alloc o').cell? ⟨bt, ot + j * 5 + 1, none⟩ = some (.int .i64 (pN : Int)) := fun o' => up o' _ _ (by rw [← hpN]; exact hct 1 _ rfl)
          have d2 : ∀ o', (wr.alloc o').cell? ⟨bt, ot + j * 5 + 2, none⟩ = some (.int .i64 (qN : Int)) := fun o' => up o' _ _ (by rw [← hqN]; exact hct 2 _ rfl)
          obtain ⟨bo, oo, co', exo, hbo, hco⟩ := Row1.cell HR4.out j (by rw [HOL2.out]; exact hjl)
          cases exo
          rw [hc] at hco
          have d3 : ∀ o', (wr.alloc o').cell? ⟨bo, oo + j, none⟩ = some (.bool false) := fun o' => up o' _ _ hco
          have hjo : j < o.length := by rw [HOL2.out]; exact hjl
          have j2 : ∀ o', (wr.alloc o').cell? ⟨w1.heap.size, 2, none⟩ = some (.slice (some ⟨bt, ot, none⟩) N.lines.length cl) := fun o' => up o' _ _ k2
          have hends : ((pN : Int) = (u : Int) ∧ (qN : Int) = (v : Int)) ∨ ((pN : Int) = (v : Int) ∧ (qN : Int) = (u : Int)) := by
            rw [← hpN, ← hqN]; exact hends0
          have hpn : pN < N.buses.length := by omega
          have hqn : qN < N.buses.length := by omega
          have hj0 : ¬ ((j : Int) < 0) := by omega
          have hj1 : ¬ ((N.lines.length : Int) ≤ (j : Int)) := by omega
          have HK5 := hide' k5
          have HK2 := hide' k2
          have HG0 := hide' g0
          clear hct hen hpN hqN hends0 hje hc hj up upr g0 g1 g0' k0 k1 k2 k3 k4 k5 kf z1 z2 hlm hli hbo hco
          have hwa : IntKind.i64.wrap ((pN : Int) + (qN : Int)) = (pN : Int) + (qN : Int) := Go.IntWalk.i64_in _ (by omega)
          have hwb : IntKind.i64.wrap ((pN : Int) + (qN : Int) - (u : Int)) = (v : Int) := by
            rw [show (pN : Int) + (qN : Int) - (u : Int) = (v : Int) by omega]; exact Go.IntWalk.i64_in _ (by omega)
          rcases hends with ⟨e1, e2⟩ | ⟨e1, e2⟩
          · have e1' : pN = u := by omega
            have e2' : qN = v := by omega
            subst e1'
            subst e2'
            clear e1 e2
            go_wp2_with fail
            go_quiet (fail)
            obtain ⟨W9, hW9⟩ : ∃ W9, W9 = (wr.alloc (.cells #[.bool false, .int .i64 (j : Int)] 45)).drewN nq := ⟨_, rfl⟩
            have HB9 : Hid (Below w4.heap.size w4 W9) := by rw [hW9]; exact below_drewN (HBR.out.alloc HBR.out.size _) nq
            rw [← hW9]
            clear hW9
            go_wp2
            go_roundw
            case rel => exact ⟨i + 1, qN, rfl, by go_num, by omega, hv, HF2, HD2, HB9⟩
            case measure => simp [intOf]; omega
          · have e1' : pN = v := by omega
            have e2' : qN = u := by omega
            subst e1'
            subst e2'
            have hb : (((qN : Int)) == (pN : Int)) = false := beq_eq_false_iff_ne.2 (by omega)
            clear e1 e2
            go_wp2_with fail
            go_quiet (fail)
            obtain ⟨W9, hW9⟩ : ∃ W9, W9 = (wr.alloc (.cells #[.bool false, .int .i64 (j : Int)] 45)).drewN nq := ⟨_, rfl⟩
            have HB9 : Hid (Below w4.heap.size w4 W9) := by rw [hW9]; exact below_drewN (HBR.out.alloc HBR.out.size _) nq
            rw [← hW9]
            clear hW9
            go_wp2
            go_roundw
            case rel => exact ⟨i + 1, pN, rfl, by go_num, by omega, hv, HF2, HD2, HB9⟩
            case measure => simp [intOf]; omega
        · skip
          have g0' : ∀ o', (wr.alloc o').cell? ⟨bw, ow + i * 2, none⟩ = some (.bool true) := fun o' => up o' _ _ g0
          have g0'' : wr.cell? ⟨bw, ow + i * 2, none⟩ = some (.bool true) := upr _ _ g0
          have g1'' : wr.cell? ⟨bw, ow + i * 2 + 1, none⟩ = some (.int .i64 (j : Int)) := upr _ _ g1
          have hjl : j < N.ties.length := (List.getElem?_eq_some_iff.1 hj).1
          obtain ⟨bt, ot, c9, ex, _, hct⟩ := row_elem (f := TieM.cells) (fun _ => rfl) (rowAt_of_own HO4.out.ht) j hjl (by decide)
          cases ex
          have hje : N.ties[j] = t := by
            have h9 := List.getElem?_eq_getElem hjl
            rw [hj] at h9
            injection h9 with h9
            exact h9.symm
          rw [hje] at hct
          have hen := HG.out.ties t (List.mem_of_getElem? hj)
          obtain ⟨pN, hpN⟩ := Int.eq_ofNat_of_zero_le hen.1
          obtain ⟨qN, hqN⟩ := Int.eq_ofNat_of_zero_le hen.2.2.1
          have hpq : pN ≠ qN := fun e => hen.2.2.2.2 (by rw [hpN, hqN, e])
          have d1 : ∀ o', (wr.alloc o').cell? ⟨bt, ot + j * 4 + 1, none⟩ = some (.int .i64 (pN : Int)) := fun o' => up o' _ _ (by rw [← hpN]; exact hct 1 _ rfl)
          have d2 : ∀ o', (wr.alloc o').cell? ⟨bt, ot + j * 4 + 2, none⟩ = some (.int .i64 (qN : Int)) := fun o' => up o' _ _ (by rw [← hqN]; exact hct 2 _ rfl)
          have d3 : ∀ o', (wr.alloc o').cell? ⟨bt, ot + j * 4 + 3, none⟩ = some (.bool true) := fun o' => up o' _ _ (by rw [← hc]; exact hct 3 _ rfl)
          have j5 : ∀ o', (wr.alloc o').cell? ⟨w1.heap.size, 5, none⟩ = some (.slice (some ⟨bt, ot, none⟩) N.ties.length ct) := fun o' => up o' _ _ k5
          have hends : ((pN : Int) = (u : Int) ∧ (qN : Int) = (v : Int)) ∨ ((pN : Int) = (v : Int) ∧ (qN : Int) = (u : Int)) := by
            rw [← hpN, ← hqN]; exact hends0
          have hpn : pN < N.buses.length := by omega
          have hqn : qN < N.buses.length := by omega
          have hj0 : ¬ ((j : Int) < 0) := by omega
          have hj1 : ¬ ((N.ties.length : Int) ≤ (j : Int)) := by omega
          have HK5 := hide' k5
          have HK2 := hide' k2
          have HG0 := hide' g0
          clear hct hen hpN hqN hends0 hje hc hj up upr g0 g1 g0' k0 k1 k2 k3 k4 k5 kf z1 z2 hlm hli
          have hwa : IntKind.i64.wrap ((pN : Int) + (qN : Int)) = (pN : Int) + (qN : Int) := Go.IntWalk.i64_in _ (by omega)
          have hwb : IntKind.i64.wrap ((pN : Int) + (qN : Int) - (u : Int)) = (v : Int) := by
            rw [show (pN : Int) + (qN : Int) - (u : Int) = (v : Int) by omega]; exact Go.IntWalk.i64_in _ (by omega)
          rcases hends with ⟨e1, e2⟩ | ⟨e1, e2⟩
          · have e1' : pN = u := by omega
            have e2' : qN = v := by omega
            subst e1'
            subst e2'
            clear e1 e2
            go_wp2_with fail
            go_quiet (fail)
            obtain ⟨W9, hW9⟩ : ∃ W9, W9 = (wr.alloc (.cells #[.bool true, .int .i64 (j : Int)] 45)).drewN nq := ⟨_, rfl⟩
            have HB9 : Hid (Below w4.heap.size w4 W9) := by rw [hW9]; exact below_drewN (HBR.out.alloc HBR.out.size _) nq
            rw [← hW9]
            clear hW9
            go_wp2
            go_roundw
            case rel => exact ⟨i + 1, qN, rfl, by go_num, by omega, hv, HF2, HD2, HB9⟩
            case measure => simp [intOf]; omega
          · have e1' : pN = v := by omega
            have e2' : qN = u := by omega
            subst e1'
            subst e2'
            have hb : (((qN : Int)) == (pN : Int)) = false := beq_eq_false_iff_ne.2 (by omega)
            clear e1 e2
            go_wp2_with fail
            go_quiet (fail)
            obtain ⟨W9, hW9⟩ : ∃ W9, W9 = (wr.alloc (.cells #[.bool true, .int .i64 (j : Int)] 45)).drewN nq := ⟨_, rfl⟩
            have HB9 : Hid (Below w4.heap.size w4 W9) := by rw [hW9]; exact below_drewN (HBR.out.alloc HBR.out.size _) nq
            rw [← hW9]
            clear hW9
            go_wp2
            go_roundw
            case rel => exact ⟨i + 1, pN, rfl, by go_num, by omega, hv, HF2, HD2, HB9⟩
            case measure => simp [intOf]; omega
      · have hiK : i = K := by omega
        have huy : u = yN := far_zero (serviceL_ends HE.out o) hyn hu (by rw [HFU.out, hiK, Nat.sub_self]; rfl)
        subst huy
        have hback := far_back (serviceL_ends HE.out o) hxn hyn (by rw [HFK.out]; omega)
        have hwb : WayIs N o (u : Int) (xN : Int) (wayL (serviceL N o) (farL N.buses.length (serviceL N o) xN) K (u : Int)) 0 := .inr (.inr (.inr (.inr ⟨HMay.out, HOL2.out, u, xN, rfl, rfl, hyn, hxn, by rw [hback, HFK.out]; omega, by rw [hback, HFK.out, Int.toNat_natCast], rfl⟩)))
        have hlb := wayL_length (serviceL_ends HE.out o) hxn K u hyn (by rw [hback, HFK.out])
        have HBWr : Hid (Below w.heap.size w wr) := HBW4.out.trans (HBR.out.mono HBW4.out.size)
        have HWB := hide' (Way_any N _ _ _ _ _ _ (.slice ao o.length co) o (u : Int) (xN : Int) _ 0 mx wr HSM.out (HTB.out.later HBWr.out) (owns_later HO4.out HBR.out) (HKM.out _ HBWr.out) (RowAt.below HR4.out HBR.out (Nat.le_refl _)) (by omega) hwb)
        have m0 := upr _ _ k0
        have m1 := upr _ _ k1
        have m2 := upr _ _ k2
        have m3 := upr _ _ k3
        have m4 := upr _ _ k4
        have m5 := upr _ _ k5
        have HM1 := hide' k1
        have HLBK := hide' hlb
        clear hback hwb hlb upr up k0 k1 k2 k3 k4 k5 kf z1 z2 HFU HDU hiK
        go_wp2_with fail
        refine HWB.out.mono ?_
        rintro e w9 ⟨ab9, cb9, rfl, hrow9, hb9⟩
        rw [HLBK.out]
        have n1 : w9.cell? ⟨w1.heap.size, 1, none⟩ = some (.slice ab N.buses.length cb) := (hb9.cell (World.block_lt_of_cell? wr _ m1)).trans m1
        have HBW9 : Hid (Below w.heap.size w w9) := HBWr.out.trans (hb9.mono HBWr.out.size)
        have hKi : (K : Int) < (N.buses.length : Int) := by omega
        clear hrow9 hb9 m0 m1 m2 m3 m4 m5 HWB
        go_wp2
        go_ret
        exact ⟨by first | rfl | simp, HBW9.out⟩
end Go.Proofs.YtjcpcjickdcpmacGreatDoor.Bar

/- BarsLead: for every raw network, list of signs and two numbers, a way leads, hop by hop, over what is closed and in service; there is one just within an island; the way back is as long. The row, and its card. -/
namespace Go.Proofs.YtjcpcjickdcpmacGreatDoor
open Go.ChangeShapes Go.WideShapes Go.ChangeAt Go.RowKit Go.Lib Go.ChangeMaps

section
variable {H : Type} {enc : TypeId × Value → H} {W : World} {base : Nat} {spare : Nat → Bool} {held : Bool}
theorem Doc.bool_rd (fuel : Nat) (cs : List Value) (x : DataW H × List MemPlace) (hl : cs.length = 1) (h : DataW.trod enc Tryz.prog W base spare held fuel 4 cs = some x) : ∃ m : Bool, cs = [.bool m] ∧ True := by
  match cs, hl with
  | [v], _ =>
    obtain ⟨c, e, _⟩ := DataW.trod_bool Tryz.underlying4 h
    cases e
    exact ⟨c, rfl, trivial⟩
theorem Doc.flat_bools (xs : List Bool) : (xs.flatMap fun x => [Value.bool x]) = xs.map Value.bool := by
  induction xs with
  | nil => rfl
  | cons x r ih => simp [ih]
set_option maxRecDepth 100000 in
theorem Doc.bools_of {r : Reach} {b0 : Nat} {v : Value} {d : DataW H} {p : List MemPlace} (hv : Value.okWide Tryz.prog W r b0 26 v) (h : DataW.Trod enc Tryz.prog W base spare held 26 v d p) :
    ∃ out : List Bool, RowAt W v out.length 1 (out.map Value.bool) := by
  obtain ⟨fuel, hf0⟩ := h
  obtain ⟨a, len, cap, rfl⟩ := okWide_slice Bar.Tryz.underlying26' hv
  have hc : (Value.slice a len cap).cells.toList = [.slice a len cap] := rfl
  rw [hc] at hf0
  obtain ⟨bs, hb, _, _⟩ := Doc.open_rows (fun x => [Value.bool x]) (fun _ _ => True) Bar.Tryz.underlying26' Doc.c4 (by decide) (fun _ => rfl) (fun _ _ _ _ _ => trivial) Doc.bool_rd hf0
  rw [Doc.flat_bools] at hb
  exact ⟨bs, hb⟩
end

theorem laidOut : laidOutB Tryz.prog = true := by kernel_rfl
theorem own : ownKnob Tryz.prog.godebug = none := by kernel_rfl
/-- The length that the library's search reads: some number. -/
theorem maxLen_cell {w : World} (h : w.ShapedOpen Tryz.prog) : ∃ m, w.cell? ⟨1, 0, none⟩ = some (.int .i64 m) :=
  cell_of_shapedOpen_int (g := 1) (t := 3) (zero := #[.int .i64 0]) h (by decide +kernel) (by kernel_rfl) rfl (by kernel_rfl) (by kernel_rfl) Tryz.underlying3

def tab32 : List Int := [0, 1, 28, 2, 29, 14, 24, 3, 30, 22, 20, 15, 25, 17, 4, 8, 31, 27, 13, 23, 21, 19, 16, 7, 26, 12, 18, 6, 11, 5, 10, 9]
def tab64 : List Int := [0, 1, 56, 2, 57, 49, 28, 3, 61, 58, 42, 50, 38, 29, 17, 4, 62, 47, 59, 36, 45, 43, 51, 22, 53, 39, 33, 30, 24, 18, 12, 5, 63, 55, 48, 27, 60, 41, 37, 16, 46, 35, 44, 21, 52, 32, 23, 11, 54, 26, 40, 15, 34, 20, 31, 10, 25, 14, 19, 9, 13, 8, 7, 6]
def pow10 : List Int := [1, 10, 100, 1000, 10000, 100000, 1000000, 10000000, 100000000, 1000000000, 10000000000, 100000000000, 1000000000000, 10000000000000, 100000000000000, 1000000000000000, 10000000000000000, 100000000000000000, 1000000000000000000, 10000000000000000000]
def textRange : List UInt8 := [118, 97, 108, 117, 101, 32, 111, 117, 116, 32, 111, 102, 32, 114, 97, 110, 103, 101]
def textSyntax : List UInt8 := [105, 110, 118, 97, 108, 105, 100, 32, 115, 121, 110, 116, 97, 120]
def putAt (h : Array Obj) (g : Nat) (cs : Array Value) : Array Obj := h.modify g fun
  | .cells _ t frozen => .cells cs t frozen
  | o => o
/-- A world for the witness: the settled one, the listed variables holding what their initialisers lay. -/
def laidW (P : Program) (os : Os) : World :=
  let N := (World.settled P os).heap.size
  let w0 := World.holding P os ⟨#[.cells #[.string ⟨textRange.toArray⟩] 181, .cells #[.string ⟨textSyntax.toArray⟩] 181], #[], []⟩
  let h1 := putAt (putAt w0.heap 4 #[.iface 179 (.pointer (some ⟨N + 1, 0, none⟩))]) 5 #[.iface 179 (.pointer (some ⟨N, 0, none⟩))]
  let h2 := putAt (putAt (putAt h1 0 (pow10.map (Value.int .u64)).toArray) 2 (tab32.map (Value.int .u8)).toArray) 3 (tab64.map (Value.int .u8)).toArray
  { w0 with heap := h2 }
/-- The table that Itoa reads, out of the row's list. -/
theorem tab_all {W : World} (h : laidMetH Tryz.prog Rows.barsLeadRow.laid W) : TabAll W := by
  have h0 : laidMet Tryz.prog (("math/bits.deBruijn32tab", Rows.laid_math_bits_deBruijn32tab) :: ("math/bits.deBruijn64tab", Rows.laid_math_bits_deBruijn64tab) :: ("internal/strconv.uint64pow10", Rows.laid_internal_strconv_uint64pow10) :: [("strconv.ErrRange", Rows.laid_strconv_ErrRange), ("strconv.ErrSyntax", Rows.laid_strconv_ErrSyntax)]) W := h
  have h1 := (laidMet.tail (laidMet.tail h0))
  have hg : Tryz.prog.globalNamed "internal/strconv.uint64pow10" = some 0 := by kernel_rfl
  have ht : Lib.TabIs Tryz.prog W "internal/strconv.uint64pow10" .u64 Lib.pow10Tab :=
    Lib.tabIs_of_head (rest := [("strconv.ErrRange", Rows.laid_strconv_ErrRange), ("strconv.ErrSyntax", Rows.laid_strconv_ErrSyntax)]) (t := 156) (e := 91) (n := 20) hg (by kernel_rfl) (by kernel_rfl) (by kernel_rfl) (by kernel_rfl) (by kernel_rfl) h1
  intro W' hb
  have hlt : 0 < W.heap.size := World.block_lt_of_cell? W ⟨0, 0, none⟩ (Lib.TabIs.cell ht hg 0 (by decide))
  exact var?_below hb hg hlt ht

abbrev noArgs : Array Value := #[.agg #[.int .i64 0, .slice none 0 0, .slice none 0 0], .slice none 0 0, .int .i64 0, .int .i64 0]
set_option maxRecDepth 100000 in
theorem laid_met (os : Os) (args : Array Value) : laidMet Tryz.prog Rows.barsLeadRow.laid ((laidW Tryz.prog os).forCall (fun _ _ => 0) ⟨#[], args, []⟩).memory :=
  (LaidIn.of_run (l := Rows.barsLeadRow.laid) [2, 3, 0, 5, (World.settled Tryz.prog default).heap.size, 4, (World.settled Tryz.prog default).heap.size + 1] 8 (by kernel_rfl) (by kernel_rfl) (by kernel_rfl) (by kernel_rfl)).met

set_option maxRecDepth 100000 in
theorem witness_row (os : Os) {H : Type} (enc : TypeId × Value → H) :
    (OpenSpec.ofChange Rows.barsLeadSpec).preRow enc Tryz.prog Tryz.f3 Rows.barsLeadRow.domain false Rows.barsLeadRow.laid ((laidW Tryz.prog os).forCall (fun _ _ => 0) ⟨#[], noArgs, []⟩).memory noArgs := by
  have hw : (DataW.whole enc Tryz.prog ((laidW Tryz.prog os).forCall (fun _ _ => 0) ⟨#[], noArgs, []⟩).memory Tryz.f3.params.toList (OpenSpec.ofChange Rows.barsLeadSpec).vars false noArgs.toList 8).map (fun x => (x.1, x.2.1)) =
      some ([.agg [.lit (.int .i64 0), .nil, .nil], .nil, .lit (.int .i64 0), .lit (.int .i64 0)], []) := by kernel_rfl
  obtain ⟨⟨x1, x2, x3⟩, hx, hx1⟩ := Option.map_eq_some_iff.1 hw
  simp only [Prod.mk.injEq] at hx1
  obtain ⟨rfl, rfl⟩ := hx1
  exact OpenSpec.preRow_of_cond 8 hx (by kernel_rfl) (fun k hk => by cases hk) (by kernel_rfl) (laid_met os _)

set_option maxRecDepth 100000 in
set_option maxHeartbeats 2000000 in
theorem lifted (os : Os) (started : os.Started) (H : Type) (enc : TypeId × Value → H) (F : Stop.Interp) :
    ReturnsInHanded {} Tryz.checked os 3 .any ((OpenSpec.ofChange Rows.barsLeadSpec).preRow enc Tryz.prog Tryz.f3 Rows.barsLeadRow.domain false Rows.barsLeadRow.laid) (((OpenSpec.ofChange Rows.barsLeadSpec).at F).post enc Tryz.prog Tryz.f3 false true false false) := by
  refine returnsInHanded_of_row (C := Tryz.checked) (s := OpenSpec.ofChange Rows.barsLeadSpec) own started (by kernel_rfl) Tryz.func3
    (witness_row_atRef (enc := enc) (C := Tryz.checked) false (laidW Tryz.prog os) noArgs rfl (by kernel_rfl) (by kernel_rfl) (by kernel_rfl) (witness_row os enc)) ?_
  intro W base args ds gs before hval0 hW _ _ _ hL hsh _
  have hval : ∀ (j : Nat) t v, Tryz.f3.params[j]? = some t → args[j]? = some v → Value.okWide Tryz.prog W .any base t v := hval0
  have hW' := hW
  obtain ⟨p, q, hA0, hV0, rfl, _, _⟩ := hW
  have hA : DataW.TrodAll enc Tryz.prog W 0 (fun _ => true) true Tryz.f3.params.toList args.toList ds p := hA0
  rw [Tryz.params3] at hA hval
  obtain ⟨v0, v1, v2, v3, d0, d1, d2, d3, p0, p1, p2, p3, rfl, rfl, rfl, h0, h1, h2, h3⟩ := trodAll_four hA
  obtain ⟨rfl, rfl⟩ := trodVars_none hV0
  obtain ⟨nb, a1, n1, c1, a2, n2, c2, rfl, hraw⟩ := raw_of (hval 0 25 v0 rfl rfl) h0
  obtain ⟨out, hor⟩ := Doc.bools_of (hval 1 26 v1 rfl rfl) h1
  have ha : ∃ a : Int, v2 = .int .i64 a ∧ I64 a := by
    obtain ⟨a, e, _, _, hw⟩ := open_int Tryz.underlying3 (hval 2 3 v2 rfl rfl) h2
    exact ⟨a, e, i64_wf hw⟩
  have hb : ∃ a : Int, v3 = .int .i64 a ∧ I64 a := by
    obtain ⟨a, e, _, _, hw⟩ := open_int Tryz.underlying3 (hval 3 3 v3 rfl rfl) h3
    exact ⟨a, e, i64_wf hw⟩
  obtain ⟨a, rfl, hai⟩ := ha
  obtain ⟨b, rfl, hbi⟩ := hb
  have hlt : ∀ x ∈ p0 ++ p1 ++ p2 ++ p3, x.block < W.heap.size := fun x hx => DataW.TrodAll.lt hA0 x (by simpa using hx)
  clear hA0 hV0 hval0
  obtain ⟨mx, hm⟩ := maxLen_cell hsh
  refine (Bar.BarsLead_any nb a1 a2 n1 c1 n2 c2 v1 out a b mx W hraw hai hbi (tab_all hL) hm hor).mono ?_
  rintro e W' ⟨rfl, bel⟩
  have e1 : ((OpenSpec.ofChange Rows.barsLeadSpec).at F).fn H ([d0, d1, d2, d3] ++ []) = { results := [.lit (.bool true)], args := [d0, d1, d2, d3] } := rfl
  refine ⟨_, rfl, _, _, _, [], p0 ++ (p1 ++ (p2 ++ p3)), [], hW', ?_, ?_, ?_, by first | exact bel.frame _ | (rw [← List.append_assoc, ← List.append_assoc]; exact bel.frame _), fun h => by cases h⟩
  · rw [e1]; exact trodAll_mk1 (shut_bool Tryz.underlying4 _)
  · rw [e1]
    exact trodAll_mk4 (Below.trod laidOut (by kernel_rfl) (of_decide_eq_true (by kernel_rfl)) h0 bel (fun x hx => hlt x (by simp [hx]))) (Below.trod laidOut (by kernel_rfl) (of_decide_eq_true (by kernel_rfl)) h1 bel (fun x hx => hlt x (by simp [hx]))) (Below.trod laidOut (by kernel_rfl) (of_decide_eq_true (by kernel_rfl)) h2 bel (fun x hx => hlt x (by simp [hx]))) (Below.trod laidOut (by kernel_rfl) (of_decide_eq_true (by kernel_rfl)) h3 bel (fun x hx => hlt x (by simp [hx])))
  · rw [e1]; rfl

theorem row_said : Rows.BarsLeadSaid :=
  OpenClaim.holds_of_cond 3 Tryz.f3 rfl rfl rfl rfl rfl rfl rfl ⟨rfl, rfl, rfl, rfl, rfl⟩ rfl rfl rfl rfl rfl (by kernel_rfl) Tryz.func3 (by kernel_rfl)
    (of_decide_eq_true (by kernel_rfl)) (by unfold Func.isWrapper; first | (rw [if_pos (by decide +kernel)]; kernel_rfl) | (rw [if_neg (by decide +kernel)]; exact ⟨rfl, rfl⟩))
    (fun os started H enc _ F => by rw [OpenClaim.pre_eq_preRow]; exact lifted os started H enc F)

/-- No parameter wants a stand-in; the program's own looks are off. -/
theorem plain (f : FuncId) (fn : Func) (hf : Tryz.pinned.checked.prog.funcNamed Rows.barsLeadRow.func = some f) (hfn : Tryz.pinned.checked.prog.funcs[f]? = some fn) :
    true = Tryz.pinned.checked.prog.looks [] ∧ ∀ (j : Nat) t, fn.params[j]? = some t → Tryz.pinned.checked.prog.wantsStandIn t = false := by
  obtain rfl : f = 3 := Option.some.inj ((show Tryz.prog.funcNamed Rows.barsLeadRow.func = some 3 by kernel_rfl).symm.trans hf) |>.symm
  obtain rfl : fn = Tryz.f3 := (Option.some.inj (Tryz.func3.symm.trans hfn)).symm
  refine ⟨by kernel_rfl, fun j t ht => ?_⟩
  rw [Tryz.params3] at ht
  have h2 : t = 25 ∨ t = 26 ∨ t = 3 := by simpa using Array.mem_of_getElem? ht
  rcases h2 with rfl | rfl | rfl
  · exact (show Tryz.prog.wantsStandIn 25 = false by kernel_rfl)
  · exact (show Tryz.prog.wantsStandIn 26 = false by kernel_rfl)
  · exact (show Tryz.prog.wantsStandIn 3 = false by kernel_rfl)

/-- The card. -/
theorem barsLead_card : Rows.BarsLeadCardSaid :=
  Claim7.holds_tied_plain_at .later [] _ _ _ _ row_said (fun _ h => by cases h) (by kernel_rfl) (fun _ h => by cases h) barsLead_row_tie rfl ⟨rfl, rfl⟩ (by kernel_rfl) rfl plain (by kernel_rfl)
#print axioms barsLead_card
end Go.Proofs.YtjcpcjickdcpmacGreatDoor
