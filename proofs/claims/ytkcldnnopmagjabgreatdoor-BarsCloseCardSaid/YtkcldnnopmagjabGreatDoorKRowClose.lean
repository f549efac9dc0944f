/- For every raw network, every list of signs and every number, BarsClose answers true: to close a tie of the network made of it makes one node of two, or changes nothing, and nodes lie in islands; the arguments read afterwards as they did before. Conditions: the listed package-level variables of the library hold what their initialisers lay (the card ties them to the program). -/
import Derived.Test.YtkcldnnopmagjabGreatDoorKY1
import Derived.ProofKit
import Derived.OpenShut
import Derived.Deep.Slices
import Derived.Deep.Strs
import Derived.Lib.SmallJoins
import Derived.BigQuiet
import Derived.Test.YtkcldnnopmagjabGreatDoorKDc9
import Derived.Test.YtkcldnnopmagjabGreatDoorCards
import Derived.Test.YtkcldnnopmagjabGreatDoorTie
import Derived.Deep.DeepWitnessRowRef
import Derived.Lib.LaidIn
import Derived.Lib.LaidTab
import Derived.Stop.LaidErr
import Derived.Shelf.Vars
namespace Go.Proofs.YtkcldnnopmagjabGreatDoor
open Go.ChangeShapes Go.WideShapes Go.ChangeAt Go.RowKit Go.Deep

section
variable {H : Type} {enc : TypeId × Value → H} {W : World} {base : Nat} {spare : Nat → Bool} {held : Bool}
theorem i64_wf {n : Int} (h : (Lit.int .i64 n).wf = true) : I64 n := bounds_i64 h
theorem addr_plain {p : Addr} {v : Value} (h : W.cell? p = some v) : p = ⟨p.block, p.off, none⟩ := by
  obtain ⟨b, o, s⟩ := p
  cases s with
  | none => rfl
  | some s =>
    unfold World.cell? at h
    split at h
    · simp at h
    · cases h
theorem plain_add (b o n : Nat) : (⟨b, o, none⟩ : Addr).add n = ⟨b, o + n, none⟩ := by
  unfold Addr.add
  split
  · next h => simp_all
  · rfl
theorem add_more (a : Addr) (m n : Nat) : (a.add m).add n = a.add (m + n) := by
  unfold Addr.add
  repeat' split
  all_goals simp_all
  all_goals omega
theorem three_cells {P : Program} {e fuel : Nat} {f0 f1 f2 : Field} {a : Addr} {i : Nat} {cs : List Value} {x : DataW H × List MemPlace} (he : P.underlying e = some (.struct #[f0, f1, f2])) (o0 : f0.offset = 0) (o1 : f1.offset = 1) (o2 : f2.offset = 2) (c0 : P.cellsOf f0.type = 1) (c1 : P.cellsOf f1.type = 1) (c2 : P.cellsOf f2.type = 1)
    (h1 : W.cells? base (a.add (i * 3)) 3 = some cs) (h2 : DataW.trod enc P W base spare held fuel e cs = some x) :
    ∃ v0 v1 v2 n y0 y1 y2, W.cell? (a.add (i * 3)) = some v0 ∧ W.cell? (a.add (i * 3 + 1)) = some v1 ∧ W.cell? (a.add (i * 3 + 2)) = some v2 ∧
      DataW.trod enc P W base spare held n f0.type [v0] = some y0 ∧ DataW.trod enc P W base spare held n f1.type [v1] = some y1 ∧ DataW.trod enc P W base spare held n f2.type [v2] = some y2 := by
  obtain ⟨_, hlen, hcell⟩ := World.cells?_some h1
  obtain ⟨y0, y1, y2, n, _, _, g0, g1, g2⟩ := trod_struct3 he h2
  match cs, hlen with
  | [v0, v1, v2], _ =>
    simp [o0, o1, o2, c0, c1, c2] at g0 g1 g2
    have e0 := hcell 0 (by omega)
    have e1 := hcell 1 (by omega)
    have e2 := hcell 2 (by omega)
    rw [add_more] at e0 e1 e2
    exact ⟨v0, v1, v2, n, y0, y1, y2, e0, e1, e2, g0, g1, g2⟩
theorem at_zero {a : Addr} {v : Value} (h : W.cell? (a.add (0 * 3)) = some v) : ∃ b o, a = ⟨b, o, none⟩ := by
  have e : a.add (0 * 3) = a := by simp [Addr.add]
  rw [e] at h
  exact ⟨_, _, addr_plain h⟩
set_option maxRecDepth 100000 in
set_option maxHeartbeats 1000000 in
theorem raw_of {r : Reach} {b0 : Nat} {v0 : Value} {d0 : DataW H} {p : List MemPlace} (hv : Value.okWide Tryz.prog W r b0 52 v0) (h : DataW.Trod enc Tryz.prog W base spare held 52 v0 d0 p) :
    ∃ nb a1 n1 c1 a2 n2 c2, v0 = .agg #[.int .i64 nb, .slice a1 n1 c1, .slice a2 n2 c2] ∧ RawAt W nb a1 n1 a2 n2 := by
  obtain ⟨u0, u1, u2, y0, y1, y2, n, rfl, _, _, g0, g1, g2⟩ := Go.Joins.open_agg3 Tryz.underlying52 (by kernel_rfl) (by kernel_rfl) hv h
  obtain ⟨nb, e0, _, wf0⟩ := DataW.trod_int Tryz.underlying3 g0
  cases e0
  have c3 : Tryz.prog.cellsOf 3 = 1 := by kernel_rfl
  have c4 : Tryz.prog.cellsOf 4 = 1 := by kernel_rfl
  have c46 : Tryz.prog.cellsOf 91 = 3 := by kernel_rfl
  have c50 : Tryz.prog.cellsOf 93 = 3 := by kernel_rfl
  have hl : ∃ a1 n1 c1, u1 = .slice a1 n1 c1 ∧ n1 ≤ 9223372036854775807 ∧ ∀ k, k < n1 → ∃ b o, a1 = some ⟨b, o, none⟩ ∧ ∃ f t x : Int, I64 f ∧ I64 t ∧ I64 x ∧ W.cell? ⟨b, o + k * 3, none⟩ = some (.int .i64 f) ∧ W.cell? ⟨b, o + k * 3 + 1, none⟩ = some (.int .i64 t) ∧ W.cell? ⟨b, o + k * 3 + 2, none⟩ = some (.int .i64 x) := by
    rcases open_slice Tryz.underlying49 g1 with ⟨h1, _⟩ | ⟨a, len, cap, m, nn, D, Pl, h1, _, hlc, hcm, hm, _, hx⟩
    · cases h1
      exact ⟨none, 0, 0, rfl, by omega, fun k hk => by omega⟩
    · cases h1
      refine ⟨some a, len, cap, rfl, by unfold maxLen at hcm; omega, fun k hk => ?_⟩
      have hpl : ∃ b o, a = ⟨b, o, none⟩ := by
        obtain ⟨cs, h1, h2⟩ := hx 0 (by rw [hm]; split <;> omega)
        rw [c46] at h1
        obtain ⟨v0, v1, v2, nn', z0, z1, z2, k0, _⟩ := three_cells Tryz.underlying91 rfl rfl rfl c3 c3 c3 h1 h2
        exact at_zero k0
      obtain ⟨cs, h1, h2⟩ := hx k (by rw [hm]; split <;> omega)
      rw [c46] at h1
      obtain ⟨v0, v1, v2, nn', z0, z1, z2, k0, k1, k2, t0, t1, t2⟩ := three_cells Tryz.underlying91 rfl rfl rfl c3 c3 c3 h1 h2
      obtain ⟨f, ef, _, wf⟩ := DataW.trod_int Tryz.underlying3 t0
      obtain ⟨t, et, _, wt⟩ := DataW.trod_int Tryz.underlying3 t1
      obtain ⟨x, ex, _, wx⟩ := DataW.trod_int Tryz.underlying3 t2
      cases ef; cases et; cases ex
      obtain ⟨b, o, rfl⟩ := hpl
      rw [plain_add] at k0 k1 k2
      exact ⟨b, o, rfl, f, t, x, i64_wf wf, i64_wf wt, i64_wf wx, k0, k1, k2⟩
  have ht : ∃ a2 n2 c2, u2 = .slice a2 n2 c2 ∧ n2 ≤ 9223372036854775807 ∧ ∀ k, k < n2 → ∃ b o, a2 = some ⟨b, o, none⟩ ∧ ∃ (f t : Int) (c : Bool), I64 f ∧ I64 t ∧ W.cell? ⟨b, o + k * 3, none⟩ = some (.int .i64 f) ∧ W.cell? ⟨b, o + k * 3 + 1, none⟩ = some (.int .i64 t) ∧ W.cell? ⟨b, o + k * 3 + 2, none⟩ = some (.bool c) := by
    rcases open_slice Tryz.underlying50 g2 with ⟨h1, _⟩ | ⟨a, len, cap, m, nn, D, Pl, h1, _, hlc, hcm, hm, _, hx⟩
    · cases h1
      exact ⟨none, 0, 0, rfl, by omega, fun k hk => by omega⟩
    · cases h1
      refine ⟨some a, len, cap, rfl, by unfold maxLen at hcm; omega, fun k hk => ?_⟩
      have hpl : ∃ b o, a = ⟨b, o, none⟩ := by
        obtain ⟨cs, h1, h2⟩ := hx 0 (by rw [hm]; split <;> omega)
        rw [c50] at h1
        obtain ⟨v0, v1, v2, nn', z0, z1, z2, k0, _⟩ := three_cells Tryz.underlying93 rfl rfl rfl c3 c3 c4 h1 h2
        exact at_zero k0
      obtain ⟨cs, h1, h2⟩ := hx k (by rw [hm]; split <;> omega)
      rw [c50] at h1
      obtain ⟨v0, v1, v2, nn', z0, z1, z2, k0, k1, k2, t0, t1, t2⟩ := three_cells Tryz.underlying93 rfl rfl rfl c3 c3 c4 h1 h2
      obtain ⟨f, ef, _, wf⟩ := DataW.trod_int Tryz.underlying3 t0
      obtain ⟨t, et, _, wt⟩ := DataW.trod_int Tryz.underlying3 t1
      obtain ⟨c, ec, _⟩ := DataW.trod_bool Tryz.underlying4 t2
      cases ef; cases et; cases ec
      obtain ⟨b, o, rfl⟩ := hpl
      rw [plain_add] at k0 k1 k2
      exact ⟨b, o, rfl, f, t, c, i64_wf wf, i64_wf wt, k0, k1, k2⟩
  obtain ⟨a1, n1, c1, rfl, le1, hl⟩ := hl
  obtain ⟨a2, n2, c2, rfl, le2, ht⟩ := ht
  exact ⟨nb, a1, n1, c1, a2, n2, c2, rfl, i64_wf wf0, le1, le2, hl, ht⟩
theorem RawAt.later {W W' : World} {nb : Int} {a1 a2 : Option Addr} {n1 n2 : Nat} (h : RawAt W nb a1 n1 a2 n2) (hb : Below W.heap.size W W') : RawAt W' nb a1 n1 a2 n2 := by
  have kp : ∀ {p v}, W.cell? p = some v → W'.cell? p = some v := fun hc => (hb.cell (World.block_lt_of_cell? W _ hc)).trans hc
  refine ⟨h.nb, h.le1, h.le2, fun k hk => ?_, fun k hk => ?_⟩
  · obtain ⟨b, o, e, f, t, x, w1, w2, w3, c1, c2, c3⟩ := h.lines k hk
    exact ⟨b, o, e, f, t, x, w1, w2, w3, kp c1, kp c2, kp c3⟩
  · obtain ⟨b, o, e, f, t, x, w1, w2, c1, c2, c3⟩ := h.ties k hk
    exact ⟨b, o, e, f, t, x, w1, w2, kp c1, kp c2, kp c3⟩
end
end Go.Proofs.YtkcldnnopmagjabGreatDoor

/- BarsClose: at whatever raw network, to close a tie makes one node of two, or changes nothing; nodes lie in islands. -/
namespace Go.Proofs.YtkcldnnopmagjabGreatDoor.Bar
open Go.RowKit Go.Shelf Doc

/-- A list of numbers in a row of so many. -/
theorem row_n {w : World} {a : Option Addr} {c n : Nat} {l : List Int} (h : RowAt w (.slice a n c) n 1 (ints l)) (hl : l.length = n) {k : Nat} (hk : k < n) : ∃ b off, a = some ⟨b, off, none⟩ ∧ w.cell? ⟨b, off + k, none⟩ = some (.int .i64 (l.getD k 0)) := by
  subst hl
  obtain ⟨b, off, c', e, hc⟩ := ints_cell h k hk
  cases e
  exact ⟨b, off, rfl, hc⟩
theorem answers_n {l : List Int} {code : Int} {n : Nat} {w : World} {e : Ending} {w' : World} (h : Answers l code w e w') (hl : l.length = n) : ∃ a c, e = .returned (.tuple #[.slice a n c, .int .i64 code]) ∧ RowAt w' (.slice a n c) n 1 (ints l) ∧ Below w.heap.size w w' := by
  subst hl
  exact answers_row h
theorem count_groups {n : Nat} {links : List LinkM} (he : Ends n links) (hn : n ≤ 1000) {a : Option Addr} {c : Nat} {w : World} (h : RowAt w (.slice a n c) n 1 (ints (groupsL n links))) : Calls Tryz.prog 25 #[.slice a n c] w fun e w' => e = .returned (.int .i64 (groupsN n links : Int)) ∧ w' = w := by
  obtain ⟨cc, h0, h1, h2, h3⟩ := groups_rise he
  have hl := groupsL_len n links
  have h4 := count_any (groupsL n links) cc h0 h2 (fun i hi => h3 i (by rwa [hl] at hi)) (by omega) (.slice a n c) w (by rw [hl]; exact h)
  rw [hl, h1] at h4
  exact h4
theorem row_all {w : World} {a : Option Addr} {c n : Nat} {l : List Int} (h : RowAt w (.slice a n c) n 1 (ints l)) (hl : l.length = n) (hn : 0 < n) : ∃ b off, a = some ⟨b, off, none⟩ ∧ ∀ k, k < n → w.cell? ⟨b, off + k, none⟩ = some (.int .i64 (l.getD k 0)) := by
  obtain ⟨b, off, e, _⟩ := row_n h hl hn
  refine ⟨b, off, e, fun k hk => ?_⟩
  obtain ⟨b', off', e', hc⟩ := row_n h hl hk
  rw [e] at e'
  cases e'
  exact hc
/-- A store over a Boolean leaves numbers as they lay. -/
theorem ints_kept {W : World} {p : Addr} {cc : Bool} {x : Value} (hp : W.cell? p = some (.bool cc)) {q : Addr} {z : Int} (hq : W.cell? q = some (.int .i64 z)) : (W.setCell p x).cell? q = some (.int .i64 z) := by
  have hne : q ≠ p := fun e => by rw [e, hp] at hq; cases hq
  exact (World.cell?_setCell_other W p q x (fun e => hne e.symm)).trans hq
theorem row_kept {W : World} {p : Addr} {cc : Bool} {x v : Value} {n : Nat} {l : List Int} (hp : W.cell? p = some (.bool cc)) (h : RowAt W v n 1 (ints l)) : RowAt (W.setCell p x) v n 1 (ints l) := by
  obtain ⟨h1, a, c, e, hc⟩ := h
  refine ⟨h1, a, c, e, fun j u hj => ?_⟩
  obtain ⟨b, off, e1, h2⟩ := hc j u hj
  rw [ints, List.getElem?_map] at hj
  obtain ⟨z, _, rfl⟩ := Option.map_eq_some_iff.1 hj
  exact ⟨b, off, e1, ints_kept hp h2⟩
/-- Nodes lie in islands. -/
theorem nodes_in {N : NetM} (he : EndsM N) (out : List Bool) {i j : Nat} (hi : i < N.buses.length) (hj : j < N.buses.length) (h : (groupsL N.buses.length (linksT N.ties N.ties.length)).getD i 0 = (groupsL N.buses.length (linksT N.ties N.ties.length)).getD j 0) :
    (groupsL N.buses.length (serviceL N out)).getD i 0 = (groupsL N.buses.length (serviceL N out)).getD j 0 :=
  (groups_iff (serviceL_ends he out) hi hj).2 (((groups_iff (linksT_ends he _) hi hj).1 h).mono (fun _ _ ⟨l, hl, hn⟩ => ⟨l, List.mem_append_right _ hl, hn⟩))

set_option maxRecDepth 100000 in
set_option maxHeartbeats 8000000 in
theorem BarsClose_any (nb : Int) (a1 a2 : Option Addr) (n1 c1 n2 c2 : Nat) (outv : Value) (out : List Bool) (kk : Int) (mx : Int) (w : World) (hraw : RawAt w nb a1 n1 a2 n2) (hkk : I64 kk) (htb : TabAll w) (hm : w.cell? ⟨1, 0, none⟩ = some (.int .i64 mx)) (hor : RowAt w outv out.length 1 (out.map Value.bool)) :
    Calls Tryz.prog 7 #[.agg #[.int .i64 nb, .slice a1 n1 c1, .slice a2 n2 c2], outv, .int .i64 kk] w fun e w' => e = .returned (.bool true) ∧ Below w.heap.size w w' := by
  obtain ⟨W0, hW0⟩ : ∃ W0, W0 = w.alloc (.cells #[.int .i64 nb, .slice a1 n1 c1, .slice a2 n2 c2] 52) := ⟨_, rfl⟩
  have hb0 : Below w.heap.size w W0 := by rw [hW0]; exact (Below.refl _ w).alloc (Nat.le_refl _) _
  have HNF := hide' (NetFrom_any nb a1 a2 n1 c1 n2 c2 W0 (hraw.later hb0))
  have h1w : 1 < w.heap.size := World.block_lt_of_cell? w _ hm
  have HKM : Hid (∀ W', Below w.heap.size w W' → W'.cell? ⟨1, 0, none⟩ = some (.int .i64 mx)) := fun W' h => (h.cell (p := ⟨1, 0, none⟩) h1w).trans hm
  have HKO : Hid (∀ W', Below w.heap.size w W' → RowAt W' outv out.length 1 (out.map Value.bool)) := fun W' h => RowAt.below hor h (Nat.le_refl _)
  have HTB := hide' htb
  have HB0 := hide' hb0
  have HW0 := hide' hW0
  have HKK := hide' hkk
  clear hW0 hb0 hraw htb hm h1w hor hkk
  go_enter Tryz.func7, Tryz.ntmps7
  go_wp2_with fail
  rw [← HW0.out]
  refine HNF.out.mono ?_
  rintro e w1 ⟨N, vb, vl, vg, vd, vt, rfl, ⟨hG, hn2⟩, ho1, hb1⟩
  obtain ⟨ab, cb, rfl⟩ := own_slice ho1.hb
  obtain ⟨al, cl, rfl⟩ := own_slice ho1.hl
  obtain ⟨ag, cg, rfl⟩ := own_slice ho1.hg
  obtain ⟨ad, cd, rfl⟩ := own_slice ho1.hd
  obtain ⟨at', ct, rfl⟩ := own_slice ho1.ht
  obtain ⟨W1, hW1⟩ : ∃ W1, W1 = w1.alloc (.cells #[.string N.name, .slice ab N.buses.length cb, .slice al N.lines.length cl, .slice ag N.gens.length cg, .slice ad N.loads.length cd, .slice at' N.ties.length ct] 28) := ⟨_, rfl⟩
  have HBW1 : Hid (Below w.heap.size w W1) := by
    have h9 := HB0.out.trans (hb1.mono HB0.out.size)
    rw [hW1]; exact h9.alloc h9.size _
  have HBX1 : Hid (W1.heap[w1.heap.size]? = some (.cells #[.string N.name, .slice ab N.buses.length cb, .slice al N.lines.length cl, .slice ag N.gens.length cg, .slice ad N.loads.length cd, .slice at' N.ties.length ct] 28 (0, 0))) := by rw [hW1]; exact World.alloc_heap_new w1 _
  have HO1 : Hid (Owns W1 W0.heap.size (.slice ab N.buses.length cb) (.slice al N.lines.length cl) (.slice ag N.gens.length cg) (.slice ad N.loads.length cd) (.slice at' N.ties.length ct) N) := by rw [hW1]; exact ⟨ho1.hb.alloc _, ho1.hl.alloc _, ho1.hg.alloc _, ho1.hd.alloc _, ho1.ht.alloc _⟩
  have HG := hide' hG
  have HMay := hide' (good_may hG)
  have HSM := hide' (good_small hG)
  have HE := hide' (MayM.ends (good_may hG))
  have HOF := hide' (OutFrom_any N _ outv out W1 (owns_net HO1.out) HMay.out.fits (HKO.out _ HBW1.out))
  have hn16 : N.buses.length ≤ 16 := hG.fits.1
  have ht24 : N.ties.length ≤ 24 := hG.fits.2.2
  have hl30 : N.lines.length ≤ 30 := hG.fits.2.1
  have HW1 := hide' hW1
  have HWS : Hid (w.heap.size ≤ W0.heap.size) := HB0.out.size
  clear hW1 hG ho1 hb1 HNF
  go_wp2_with fail
  rw [← HW1.out]
  refine HOF.out.mono ?_
  rintro e w2 ⟨o, ao, co, hol2, rfl, hrow2, hb2⟩
  have HBW2 : Hid (Below w.heap.size w w2) := HBW1.out.trans (hb2.mono HBW1.out.size)
  have HO2 := hide' (owns_later HO1.out hb2)
  have hbx2 := (hb2.block _ (Array.getElem?_eq_some_iff.1 HBX1.out).1).trans HBX1.out
  obtain ⟨k0, k1, k2, k3, k4, k5, kf⟩ := cells28 hbx2
  have HBX2 := hide' hbx2
  have HR2 := hide' hrow2
  have HOL2 := hide' hol2
  have ho30 : o.length ≤ 30 := by omega
  have HND := hide' (Nodes_any N _ _ _ _ _ _ mx w2 HSM.out (HTB.out.later HBW2.out) HO2.out (HKM.out _ HBW2.out))
  clear hbx2 hrow2 hb2 HOF HBX1 hol2
  go_wp2_with fail
  refine HND.out.mono ?_
  intro e w3 hans
  obtain ⟨aa, ca, rfl, hrowA, hb3⟩ := answers_n (hans.1 HMay.out) (groupsL_len _ _)
  have HBW3 : Hid (Below w.heap.size w w3) := HBW2.out.trans (hb3.mono HBW2.out.size)
  have HO3 := hide' (owns_later HO2.out hb3)
  have hbx3 := (hb3.block _ (Array.getElem?_eq_some_iff.1 HBX2.out).1).trans HBX2.out
  have HRA3 := hide' hrowA
  have HIS := hide' (Islands_any N _ _ _ _ _ _ (.slice ao o.length co) o mx w3 HSM.out (HTB.out.later HBW3.out) HO3.out (HKM.out _ HBW3.out) (RowAt.below HR2.out hb3 (Nat.le_refl _)) (by omega))
  clear k0 k1 k2 k3 k4 k5 kf
  obtain ⟨k0, k1, k2, k3, k4, k5, kf⟩ := cells28 hbx3
  have HBX3 := hide' hbx3
  clear hbx3 hrowA hb3 hans HND HR2
  go_wp2_with fail
  refine HIS.out.mono ?_
  intro e w4 hans
  obtain ⟨ae, ce, rfl, hrowB, hb4⟩ := answers_n (hans.1 HMay.out HOL2.out) (groupsL_len _ _)
  have HBW4 : Hid (Below w.heap.size w w4) := HBW3.out.trans (hb4.mono HBW3.out.size)
  have HO4 := hide' (owns_later HO3.out hb4)
  have hbx4 := (hb4.block _ (Array.getElem?_eq_some_iff.1 HBX3.out).1).trans HBX3.out
  have HA4 := hide' (RowAt.below HRA3.out hb4 (Nat.le_refl _))
  have HB4 := hide' hrowB
  have HLA := hide' (groupsL_len N.buses.length (linksT N.ties N.ties.length))
  have HLB := hide' (groupsL_len N.buses.length (serviceL N o))
  have HIN : Hid (∀ i j, i < N.buses.length → j < N.buses.length → (groupsL N.buses.length (linksT N.ties N.ties.length)).getD i 0 = (groupsL N.buses.length (linksT N.ties N.ties.length)).getD j 0 → (groupsL N.buses.length (serviceL N o)).getD i 0 = (groupsL N.buses.length (serviceL N o)).getD j 0) := fun i j hi hj h => nodes_in HE.out o hi hj h
  have HCA := hide' (count_groups (linksT_ends HE.out _) (by omega) HA4.out)
  have HCB := hide' (count_groups (serviceL_ends HE.out o) (by omega) HB4.out)
  have hpa := groupsN_pos (linksT_ends HE.out N.ties.length) (show 0 < N.buses.length by omega)
  have hpb := groupsN_pos (serviceL_ends HE.out o) (show 0 < N.buses.length by omega)
  obtain ⟨qa, hqa⟩ : ∃ q, q = groupsN N.buses.length (linksT N.ties N.ties.length) := ⟨_, rfl⟩
  obtain ⟨qb, hqb⟩ : ∃ q, q = groupsN N.buses.length (serviceL N o) := ⟨_, rfl⟩
  rw [← hqa] at HCA hpa
  rw [← hqb] at HCB hpb
  have HQA := hide' hqa
  have hpa1 : ¬ ((qa : Int) < 1) := by omega
  have hpb1 : ¬ ((qb : Int) < 1) := by omega
  clear k0 k1 k2 k3 k4 k5 kf
  obtain ⟨k0, k1, k2, k3, k4, k5, kf⟩ := cells28 hbx4
  have HBX4 := hide' hbx4
  clear hbx4 hrowB hb4 hans HIS HRA3 hqa hqb HBX3 HBX2 HO3 HO2 HO1 HBW3 HBW2 HBW1
  obtain ⟨A, hA⟩ : ∃ A, A = groupsL N.buses.length (linksT N.ties N.ties.length) := ⟨_, rfl⟩
  obtain ⟨B, hB⟩ : ∃ B, B = groupsL N.buses.length (serviceL N o) := ⟨_, rfl⟩
  rw [← hA] at HA4 HLA HIN
  rw [← hB] at HB4 HLB HIN
  have HAE := hide' hA
  clear hA hB
  obtain ⟨b1, o1, rfl, hcA⟩ := row_all HA4.out HLA.out (by omega)
  obtain ⟨b2, o2, rfl, hcB⟩ := row_all HB4.out HLB.out (by omega)
  have HXA := hide' hcA
  have HXB := hide' hcB
  clear hcA hcB
  go_wp2_with fail
  refine HCA.out.mono ?_
  rintro e w5 ⟨rfl, hw5⟩
  subst hw5
  go_wp2_with fail
  refine HCB.out.mono ?_
  rintro e w6 ⟨rfl, hw6⟩
  subst hw6
  clear HCB
  go_wp2_with fail
  go_loopw [13] (fun i wr => ∃ (p : Nat), i = .int .i64 p ∧ p ≤ N.buses.length ∧ ∃ m, wr = w6.drewN m) (fun i _ => N.buses.length - (intOf i).toNat)
  case atStart => exact ⟨0, rfl, Nat.zero_le _, 0, rfl⟩
  case round =>
    obtain ⟨p, rfl, hp, m, hwr⟩ := hrel
    by_cases hpl : p < N.buses.length
    · have HWR := hide' hwr
      clear hwr
      go_wp2_with fail
      go_loopw [14] (fun j wr => ∃ (q : Nat), j = .int .i64 q ∧ q ≤ N.buses.length ∧ ∃ m, wr = w6.drewN m) (fun j _ => N.buses.length - (intOf j).toNat)
      case atStart => exact ⟨0, rfl, Nat.zero_le _, m, HWR.out⟩
      case round =>
        clear HWR
        obtain ⟨q, rfl, hq, m2, hwr2⟩ := hrel
        by_cases hql : q < N.buses.length
        · have hup : ∀ (c : Addr) (u : Value), w6.cell? c = some u → wr.cell? c = some u := fun c u h => by rw [hwr2]; exact h
          have x1 := hup _ _ (HXA.out p hpl)
          have x2 := hup _ _ (HXA.out q hql)
          have y1 := hup _ _ (HXB.out p hpl)
          have y2 := hup _ _ (HXB.out q hql)
          have hin := HIN.out p q hpl hql
          obtain ⟨u1, hu1⟩ : ∃ u, u = A.getD p 0 := ⟨_, rfl⟩
          obtain ⟨u2, hu2⟩ : ∃ u, u = A.getD q 0 := ⟨_, rfl⟩
          obtain ⟨v1, hv1⟩ : ∃ u, u = B.getD p 0 := ⟨_, rfl⟩
          obtain ⟨v2, hv2⟩ : ∃ u, u = B.getD q 0 := ⟨_, rfl⟩
          rw [← hu1, ← hu2, ← hv1, ← hv2] at hin
          rw [← hu1] at x1
          rw [← hu2] at x2
          rw [← hv1] at y1
          rw [← hv2] at y2
          have HWR2 := hide' hwr2
          clear hup hu1 hu2 hv1 hv2 hwr2 k0 k1 k2 k3 k4 k5 kf
          by_cases hu : u1 = u2
          · have hv := hin hu
            subst hu
            subst hv
            clear hin
            go_wp2_with fail
            go_quiet (fail)
            go_wp2
            go_roundw
            case rel => exact ⟨q + 1, by go_num, by omega, _, by rw [HWR2.out, World.drewN_drewN]⟩
            case measure => simp [intOf]; omega
          · have hb : (u1 == u2) = false := beq_eq_false_iff_ne.2 hu
            clear hin
            go_wp2_with fail
            go_quiet (fail)
            go_wp2
            go_roundw
            case rel => exact ⟨q + 1, by go_num, by omega, _, by rw [HWR2.out, World.drewN_drewN]⟩
            case measure => simp [intOf]; omega
        · have HWR2 := hide' hwr2
          clear hwr2
          go_wp2
          go_roundw
          case rel => exact ⟨p + 1, by go_num, by omega, m2, HWR2.out⟩
          case measure => simp [intOf]; omega
    · have hpn : p = N.buses.length := by omega
      subst hwr
      by_cases ht0 : N.ties.length = 0
      · have htb : ((N.ties.length : Int) == 0) = true := beq_iff_eq.2 (by omega)
        clear ht0
        go_wp2
        go_ret
        exact ⟨rfl, below_drewN HBW4.out m⟩
      · have htp : 0 < N.ties.length := by omega
        have htb : ((N.ties.length : Int) == 0) = false := beq_eq_false_iff_ne.2 (by omega)
        obtain ⟨W5, hW5⟩ : ∃ W5, W5 = w6.drewN m := ⟨_, rfl⟩
        rw [← hW5]
        have hb5 : Below w6.heap.size w6 W5 := by rw [hW5]; exact below_drewN (Below.refl _ w6) m
        have HO5 := hide' (owns_later HO4.out hb5)
        have HBW5 : Hid (Below w.heap.size w W5) := HBW4.out.trans (hb5.mono HBW4.out.size)
        have hbx5 := (hb5.block _ (Array.getElem?_eq_some_iff.1 HBX4.out).1).trans HBX4.out
        have HA5 := hide' (RowAt.below HA4.out hb5 (Nat.le_refl _))
        have HPK := hide' (picked_any kk N.ties.length W5 HKK.out.1 HKK.out.2 htp (by omega))
        clear k0 k1 k2 k3 k4 k5 kf
        obtain ⟨k0, k1, k2, k3, k4, k5, kf⟩ := cells28 hbx5
        have HBX5 := hide' hbx5
        clear hW5 hb5 hbx5 ht0 HXA HXB HIN HB4 HA4 HBX4 HO4 HBW4 hpn
        go_wp2_with fail
        refine HPK.out.mono ?_
        rintro e w7 ⟨⟨t, rfl, ht⟩, hw7⟩
        subst hw7
        obtain ⟨ti, hti⟩ : ∃ ti, N.ties[t]? = some ti := ⟨_, List.getElem?_eq_getElem ht⟩
        obtain ⟨gb, cp, e1, hgb, f1, f2, f3, f4, ⟨cur, f5⟩, hO6⟩ := owns_close HO5.out hti
        cases e1
        obtain ⟨r0, r1, r2, r3, _⟩ := HG.out.ties ti (List.mem_of_getElem? hti)
        obtain ⟨xN, hxN⟩ := Int.eq_ofNat_of_zero_le r0
        obtain ⟨yN, hyN⟩ := Int.eq_ofNat_of_zero_le r2
        rw [hxN] at f1
        rw [hyN] at f2
        have hxn : xN < N.buses.length := by omega
        have hyn : yN < N.buses.length := by omega
        have HTI := hide' hti
        have HXN := hide' hxN
        have HYN := hide' hyN
        obtain ⟨tc, htc⟩ : ∃ c, c = ti.closed := ⟨_, rfl⟩
        rw [← htc] at f3
        clear r0 r1 r2 r3 hxN hyN hti htc HPK hO6 f5 hgb
        go_wp2_with fail
        go_quiet (fail)
        obtain ⟨W6, hW6⟩ : ∃ W6, W6 = w7.drewN nq := ⟨_, rfl⟩
        rw [← hW6]
        have hb6 : Below w7.heap.size w7 W6 := by rw [hW6]; exact below_drewN (Below.refl _ w7) nq
        have HBW6 : Hid (Below w.heap.size w W6) := HBW5.out.trans (hb6.mono HBW5.out.size)
        have hO6 := owns_later HO5.out hb6
        obtain ⟨gb', cp', e1, hgb, g1, g2, g3, g4, ⟨cur, g5⟩, hO7⟩ := owns_close hO6 HTI.out
        cases e1
        have hbx6 := (hb6.block _ (Array.getElem?_eq_some_iff.1 HBX5.out).1).trans HBX5.out
        have hne : w1.heap.size ≠ gb := fun e => by
          rw [e, g5] at hbx6
          have h9 := Option.some.inj hbx6
          injection h9 with _ h9 _
          exact absurd h9 (by decide)
        have hbx7 := (Below.heap_setCell W6 ⟨gb, t * 4 + 3, none⟩ (.bool true) _ hne).trans hbx6
        clear k0 k1 k2 k3 k4 k5 kf f1 f2 f3 f4
        obtain ⟨k0, k1, k2, k3, k4, k5, kf⟩ := cells28 hbx6
        obtain ⟨m0, m1, m2, m3, m4, m5, mf⟩ := cells28 hbx7
        obtain ⟨W7, hW7⟩ : ∃ W7, W7 = W6.setCell ⟨gb, t * 4 + 3, none⟩ (.bool true) := ⟨_, rfl⟩
        have HBW7 : Hid (Below w.heap.size w W7) := by rw [hW7]; exact HBW6.out.setCell (p := ⟨gb, t * 4 + 3, none⟩) (Nat.le_trans HWS.out hgb) _
        have HA7 : Hid (RowAt W7 (.slice (some ⟨b1, o1, none⟩) N.buses.length ca) N.buses.length 1 (ints A)) := by rw [hW7]; exact row_kept g3 (RowAt.below HA5.out hb6 (Nat.le_refl _))
        rw [← hW7] at hO7
        have HND : Hid (Calls Tryz.prog 13 #[.agg #[.string N.name, .slice ab N.buses.length cb, .slice al N.lines.length cl, .slice ag N.gens.length cg, .slice ad N.loads.length cd, .slice (some ⟨gb, 0, none⟩) N.ties.length ct]] W7 fun e w' => (MayM (closeM N t ti) → Answers (groupsL N.buses.length (linksT (closeM N t ti).ties (closeM N t ti).ties.length)) 0 W7 e w') ∧ (¬ MayM (closeM N t ti) → Answers [] 14 W7 e w')) := Nodes_any (closeM N t ti) _ _ _ _ _ _ mx W7 (good_small (close_good HG.out HTI.out)) (HTB.out.later HBW7.out) hO7 (HKM.out _ HBW7.out)
        have HM7 := hide' (good_may (close_good HG.out HTI.out))
        have HEB : Hid (Ends N.buses.length (linksT (closeM N t ti).ties (closeM N t ti).ties.length)) := linksT_ends (N := closeM N t ti) (MayM.ends HM7.out) _
        have HMO : Hid ((groupsL N.buses.length (linksT (closeM N t ti).ties (closeM N t ti).ties.length)).getD xN 0 = (groupsL N.buses.length (linksT (closeM N t ti).ties (closeM N t ti).ties.length)).getD yN 0 ∧ groupsN N.buses.length (linksT (closeM N t ti).ties (closeM N t ti).ties.length) + (if A.getD xN 0 = A.getD yN 0 then 0 else 1) = qa) := by
          have h9 := groups_more (linksT_ends HE.out N.ties.length) HEB.out hxn hyn (fun u v => by
            rw [← HXN.out, ← HYN.out]
            exact adj_close HTI.out u v)
          rw [← HAE.out, ← HQA.out] at h9
          exact h9
        have HW7 := hide' hW7
        have g4' := g4
        clear hW6 hb6 hO6 hbx6 hbx7 hW7 hO7 g5 hgb HO5 HBW5 HBX5 HA5 hne
        go_wp2_with fail
        rw [← HW7.out]
        refine HND.out.mono ?_
        intro e w8 hans
        obtain ⟨ac, cc, rfl, hrowC, hb8⟩ := answers_n (n := N.buses.length) (hans.1 HM7.out) (groupsL_len _ _)
        have HBW8 : Hid (Below w.heap.size w w8) := HBW7.out.trans (hb8.mono HBW7.out.size)
        have HA8 := hide' (RowAt.below HA7.out hb8 (Nat.le_refl _))
        have HRC := hide' hrowC
        have HLC := hide' (groupsL_len N.buses.length (linksT (closeM N t ti).ties (closeM N t ti).ties.length))
        obtain ⟨b1', o1', e1, hcA⟩ := row_all HA8.out HLA.out (by omega)
        cases e1
        obtain ⟨b3, o3, rfl, hcC⟩ := row_all HRC.out HLC.out (by omega)
        have x1 := hcA xN hxn
        have x2 := hcA yN hyn
        have z1 := hcC xN hxn
        have z2 := hcC yN hyn
        rw [← HMO.out.1] at z2
        obtain ⟨z, hz⟩ : ∃ z, z = (groupsL N.buses.length (linksT (closeM N t ti).ties (closeM N t ti).ties.length)).getD xN 0 := ⟨_, rfl⟩
        rw [← hz] at z1 z2
        have hsum := HMO.out.2
        obtain ⟨u1, hu1⟩ : ∃ u, u = A.getD xN 0 := ⟨_, rfl⟩
        obtain ⟨u2, hu2⟩ : ∃ u, u = A.getD yN 0 := ⟨_, rfl⟩
        rw [← hu1] at x1 hsum
        rw [← hu2] at x2 hsum
        have HCC : Hid (∀ W, Below w8.heap.size w8 W → Calls Tryz.prog 25 #[.slice (some ⟨b3, o3, none⟩) N.buses.length cc] W fun e w' => e = .returned (.int .i64 (groupsN N.buses.length (linksT (closeM N t ti).ties (closeM N t ti).ties.length) : Int)) ∧ w' = W) := fun W h => count_groups HEB.out (by omega) (RowAt.below HRC.out h (Nat.le_refl _))
        have HC2 : Hid (∀ W, Below w8.heap.size w8 W → Calls Tryz.prog 25 #[.slice (some ⟨b1, o1, none⟩) N.buses.length ca] W fun e w' => e = .returned (.int .i64 (qa : Int)) ∧ w' = W) := fun W h => by
          rw [HQA.out]
          exact count_groups (linksT_ends HE.out _) (by omega) (by rw [← HAE.out]; exact RowAt.below HA8.out h (Nat.le_refl _))
        obtain ⟨qc, hqc⟩ : ∃ q, q = groupsN N.buses.length (linksT (closeM N t ti).ties (closeM N t ti).ties.length) := ⟨_, rfl⟩
        rw [← hqc] at HCC hsum
        have hqle : qa ≤ 1000 := by
          obtain ⟨cf, _, h8, h9, _⟩ := groups_rise (linksT_ends HE.out N.ties.length)
          have := h9 N.buses.length
          rw [h8, ← HQA.out] at this
          omega
        clear hans hrowC hb8 HND HRC HLC hcA hcC hz hu1 hu2 HMO hqc m0 m1 m2 m3 m4 m5 mf k0 k1 k2 k3 k4 k5 kf g1 g2 g3 g4 g4' HCA
        by_cases hu : u1 = u2
        · rw [if_pos hu] at hsum
          have hqq : qc = qa := by omega
          subst hqq
          subst hu
          have hw0 : IntKind.i64.wrap ((qc : Int) - 0) = (qc : Int) := by rw [Int.sub_zero]; exact Go.IntWalk.i64_in _ (by omega)
          clear hsum
          go_wp2_with fail
          go_quiet (fail)
          go_wp2_with fail
          go_quiet (fail)
          go_wp2_with fail
          refine (HCC.out _ (below_drewN (Below.refl _ w8) _)).mono ?_
          rintro e w9 ⟨rfl, hw9⟩
          subst hw9
          go_wp2_with fail
          refine (HC2.out _ (below_drewN (Below.refl _ w8) _)).mono ?_
          rintro e w10 ⟨rfl, hw10⟩
          subst hw10
          go_wp2
          go_ret
          exact ⟨by first | rfl | simp, below_drewN HBW8.out _⟩
        · rw [if_neg hu] at hsum
          have hb : (u1 == u2) = false := beq_eq_false_iff_ne.2 hu
          have hw0 : IntKind.i64.wrap ((qa : Int) - 1) = (qc : Int) := by rw [show (qa : Int) - 1 = (qc : Int) by omega]; exact Go.IntWalk.i64_in _ (by omega)
          clear hsum
          go_wp2_with fail
          go_quiet (fail)
          go_wp2_with fail
          go_quiet (fail)
          go_wp2_with fail
          refine (HCC.out _ (below_drewN (Below.refl _ w8) _)).mono ?_
          rintro e w9 ⟨rfl, hw9⟩
          subst hw9
          go_wp2_with fail
          refine (HC2.out _ (below_drewN (Below.refl _ w8) _)).mono ?_
          rintro e w10 ⟨rfl, hw10⟩
          subst hw10
          go_wp2
          go_ret
          exact ⟨by first | rfl | simp, below_drewN HBW8.out _⟩
end Go.Proofs.YtkcldnnopmagjabGreatDoor.Bar

/- BarsClose: for every raw network, list of signs and number, to close a tie makes one node of two, or changes nothing; nodes lie in islands. The row, and its card. -/
namespace Go.Proofs.YtkcldnnopmagjabGreatDoor
open Go.ChangeShapes Go.WideShapes Go.ChangeAt Go.RowKit Go.Lib Go.ChangeMaps

section
variable {H : Type} {enc : TypeId × Value → H} {W : World} {base : Nat} {spare : Nat → Bool} {held : Bool}
theorem Doc.bool_rd (fuel : Nat) (cs : List Value) (x : DataW H × List MemPlace) (hl : cs.length = 1) (h : DataW.trod enc Tryz.prog W base spare held fuel 4 cs = some x) : ∃ m : Bool, cs = [.bool m] ∧ True := by
  match cs, hl with
  | [v], _ =>
    obtain ⟨c, e, _⟩ := DataW.trod_bool Tryz.underlying4 h
    cases e
    exact ⟨c, rfl, trivial⟩
theorem Doc.flat_bools (xs : List Bool) : (xs.flatMap fun x => [Value.bool x]) = xs.map Value.bool := by
  induction xs with
  | nil => rfl
  | cons x r ih => simp [ih]
set_option maxRecDepth 100000 in
theorem Doc.bools_of {r : Reach} {b0 : Nat} {v : Value} {d : DataW H} {p : List MemPlace} (hv : Value.okWide Tryz.prog W r b0 35 v) (h : DataW.Trod enc Tryz.prog W base spare held 35 v d p) :
    ∃ out : List Bool, RowAt W v out.length 1 (out.map Value.bool) := by
  obtain ⟨fuel, hf0⟩ := h
  obtain ⟨a, len, cap, rfl⟩ := okWide_slice Bar.Tryz.underlying35' hv
  have hc : (Value.slice a len cap).cells.toList = [.slice a len cap] := rfl
  rw [hc] at hf0
  obtain ⟨bs, hb, _, _⟩ := Doc.open_rows (fun x => [Value.bool x]) (fun _ _ => True) Bar.Tryz.underlying35' Doc.c4 (by decide) (fun _ => rfl) (fun _ _ _ _ _ => trivial) Doc.bool_rd hf0
  rw [Doc.flat_bools] at hb
  exact ⟨bs, hb⟩
end

theorem laidOut : laidOutB Tryz.prog = true := by kernel_rfl
theorem own : ownKnob Tryz.prog.godebug = none := by kernel_rfl
/-- The length that the library's search reads: some number. -/
theorem maxLen_cell {w : World} (h : w.ShapedOpen Tryz.prog) : ∃ m, w.cell? ⟨1, 0, none⟩ = some (.int .i64 m) :=
  cell_of_shapedOpen_int (g := 1) (t := 3) (zero := #[.int .i64 0]) h (by decide +kernel) (by kernel_rfl) rfl (by kernel_rfl) (by kernel_rfl) Tryz.underlying3

def tab32 : List Int := [0, 1, 28, 2, 29, 14, 24, 3, 30, 22, 20, 15, 25, 17, 4, 8, 31, 27, 13, 23, 21, 19, 16, 7, 26, 12, 18, 6, 11, 5, 10, 9]
def tab64 : List Int := [0, 1, 56, 2, 57, 49, 28, 3, 61, 58, 42, 50, 38, 29, 17, 4, 62, 47, 59, 36, 45, 43, 51, 22, 53, 39, 33, 30, 24, 18, 12, 5, 63, 55, 48, 27, 60, 41, 37, 16, 46, 35, 44, 21, 52, 32, 23, 11, 54, 26, 40, 15, 34, 20, 31, 10, 25, 14, 19, 9, 13, 8, 7, 6]
def pow10 : List Int := [1, 10, 100, 1000, 10000, 100000, 1000000, 10000000, 100000000, 1000000000, 10000000000, 100000000000, 1000000000000, 10000000000000, 100000000000000, 1000000000000000, 10000000000000000, 100000000000000000, 1000000000000000000, 10000000000000000000]
def textRange : List UInt8 := [118, 97, 108, 117, 101, 32, 111, 117, 116, 32, 111, 102, 32, 114, 97, 110, 103, 101]
def textSyntax : List UInt8 := [105, 110, 118, 97, 108, 105, 100, 32, 115, 121, 110, 116, 97, 120]
def putAt (h : Array Obj) (g : Nat) (cs : Array Value) : Array Obj := h.modify g fun
  | .cells _ t frozen => .cells cs t frozen
  | o => o
/-- A world for the witness: the settled one, the listed variables holding what their initialisers lay. -/
def laidW (P : Program) (os : Os) : World :=
  let N := (World.settled P os).heap.size
  let w0 := World.holding P os ⟨#[.cells #[.string ⟨textRange.toArray⟩] 206, .cells #[.string ⟨textSyntax.toArray⟩] 206], #[], []⟩
  let h1 := putAt (putAt w0.heap 4 #[.iface 204 (.pointer (some ⟨N + 1, 0, none⟩))]) 5 #[.iface 204 (.pointer (some ⟨N, 0, none⟩))]
  let h2 := putAt (putAt (putAt h1 0 (pow10.map (Value.int .u64)).toArray) 2 (tab32.map (Value.int .u8)).toArray) 3 (tab64.map (Value.int .u8)).toArray
  { w0 with heap := h2 }
/-- The table that Itoa reads, out of the row's list. -/
theorem tab_all {W : World} (h : laidMetH Tryz.prog Rows.barsCloseRow.laid W) : TabAll W := by
  have h0 : laidMet Tryz.prog (("math/bits.deBruijn32tab", Rows.laid_math_bits_deBruijn32tab) :: ("math/bits.deBruijn64tab", Rows.laid_math_bits_deBruijn64tab) :: ("internal/strconv.uint64pow10", Rows.laid_internal_strconv_uint64pow10) :: [("strconv.ErrRange", Rows.laid_strconv_ErrRange), ("strconv.ErrSyntax", Rows.laid_strconv_ErrSyntax)]) W := h
  have h1 := (laidMet.tail (laidMet.tail h0))
  have hg : Tryz.prog.globalNamed "internal/strconv.uint64pow10" = some 0 := by kernel_rfl
  have ht : Lib.TabIs Tryz.prog W "internal/strconv.uint64pow10" .u64 Lib.pow10Tab :=
    Lib.tabIs_of_head (rest := [("strconv.ErrRange", Rows.laid_strconv_ErrRange), ("strconv.ErrSyntax", Rows.laid_strconv_ErrSyntax)]) (t := 181) (e := 161) (n := 20) hg (by kernel_rfl) (by kernel_rfl) (by kernel_rfl) (by kernel_rfl) (by kernel_rfl) h1
  intro W' hb
  have hlt : 0 < W.heap.size := World.block_lt_of_cell? W ⟨0, 0, none⟩ (Lib.TabIs.cell ht hg 0 (by decide))
  exact var?_below hb hg hlt ht

abbrev noArgs : Array Value := #[.agg #[.int .i64 0, .slice none 0 0, .slice none 0 0], .slice none 0 0, .int .i64 0]
set_option maxRecDepth 100000 in
theorem laid_met (os : Os) (args : Array Value) : laidMet Tryz.prog Rows.barsCloseRow.laid ((laidW Tryz.prog os).forCall (fun _ _ => 0) ⟨#[], args, []⟩).memory :=
  (LaidIn.of_run (l := Rows.barsCloseRow.laid) [2, 3, 0, 5, (World.settled Tryz.prog default).heap.size, 4, (World.settled Tryz.prog default).heap.size + 1] 8 (by kernel_rfl) (by kernel_rfl) (by kernel_rfl) (by kernel_rfl)).met

set_option maxRecDepth 100000 in
theorem witness_row (os : Os) {H : Type} (enc : TypeId × Value → H) :
    (OpenSpec.ofChange Rows.barsCloseSpec).preRow enc Tryz.prog Tryz.f7 Rows.barsCloseRow.domain false Rows.barsCloseRow.laid ((laidW Tryz.prog os).forCall (fun _ _ => 0) ⟨#[], noArgs, []⟩).memory noArgs := by
  have hw : (DataW.whole enc Tryz.prog ((laidW Tryz.prog os).forCall (fun _ _ => 0) ⟨#[], noArgs, []⟩).memory Tryz.f7.params.toList (OpenSpec.ofChange Rows.barsCloseSpec).vars false noArgs.toList 8).map (fun x => (x.1, x.2.1)) =
      some ([.agg [.lit (.int .i64 0), .nil, .nil], .nil, .lit (.int .i64 0)], []) := by kernel_rfl
  obtain ⟨⟨x1, x2, x3⟩, hx, hx1⟩ := Option.map_eq_some_iff.1 hw
  simp only [Prod.mk.injEq] at hx1
  obtain ⟨rfl, rfl⟩ := hx1
  exact OpenSpec.preRow_of_cond 8 hx (by kernel_rfl) (fun k hk => by cases hk) (by kernel_rfl) (laid_met os _)

set_option maxRecDepth 100000 in
set_option maxHeartbeats 2000000 in
theorem lifted (os : Os) (started : os.Started) (H : Type) (enc : TypeId × Value → H) (F : Stop.Interp) :
    ReturnsInHanded {} Tryz.checked os 7 .any ((OpenSpec.ofChange Rows.barsCloseSpec).preRow enc Tryz.prog Tryz.f7 Rows.barsCloseRow.domain false Rows.barsCloseRow.laid) (((OpenSpec.ofChange Rows.barsCloseSpec).at F).post enc Tryz.prog Tryz.f7 false true false false) := by
  refine returnsInHanded_of_row (C := Tryz.checked) (s := OpenSpec.ofChange Rows.barsCloseSpec) own started (by kernel_rfl) Tryz.func7
    (witness_row_atRef (enc := enc) (C := Tryz.checked) false (laidW Tryz.prog os) noArgs rfl (by kernel_rfl) (by kernel_rfl) (by kernel_rfl) (witness_row os enc)) ?_
  intro W base args ds gs before hval0 hW _ _ _ hL hsh _
  have hval : ∀ (j : Nat) t v, Tryz.f7.params[j]? = some t → args[j]? = some v → Value.okWide Tryz.prog W .any base t v := hval0
  have hW' := hW
  obtain ⟨p, q, hA0, hV0, rfl, _, _⟩ := hW
  have hA : DataW.TrodAll enc Tryz.prog W 0 (fun _ => true) true Tryz.f7.params.toList args.toList ds p := hA0
  rw [Tryz.params7] at hA hval
  obtain ⟨v0, v1, v2, d0, d1, d2, p0, p1, p2, rfl, rfl, rfl, h0, h1, h2⟩ := trodAll_three hA
  obtain ⟨rfl, rfl⟩ := trodVars_none hV0
  obtain ⟨nb, a1, n1, c1, a2, n2, c2, rfl, hraw⟩ := raw_of (hval 0 52 v0 rfl rfl) h0
  obtain ⟨out, hor⟩ := Doc.bools_of (hval 1 35 v1 rfl rfl) h1
  have ha : ∃ a : Int, v2 = .int .i64 a ∧ I64 a := by
    obtain ⟨a, e, _, _, hw⟩ := open_int Tryz.underlying3 (hval 2 3 v2 rfl rfl) h2
    exact ⟨a, e, i64_wf hw⟩
  obtain ⟨a, rfl, hai⟩ := ha
  have hlt : ∀ x ∈ p0 ++ p1 ++ p2, x.block < W.heap.size := fun x hx => DataW.TrodAll.lt hA0 x (by simpa using hx)
  clear hA0 hV0 hval0
  obtain ⟨mx, hm⟩ := maxLen_cell hsh
  refine (Bar.BarsClose_any nb a1 a2 n1 c1 n2 c2 v1 out a mx W hraw hai (tab_all hL) hm hor).mono ?_
  rintro e W' ⟨rfl, bel⟩
  have e1 : ((OpenSpec.ofChange Rows.barsCloseSpec).at F).fn H ([d0, d1, d2] ++ []) = { results := [.lit (.bool true)], args := [d0, d1, d2] } := rfl
  refine ⟨_, rfl, _, _, _, [], p0 ++ (p1 ++ p2), [], hW', ?_, ?_, ?_, by first | exact bel.frame _ | (rw [← List.append_assoc]; exact bel.frame _), fun h => by cases h⟩
  · rw [e1]; exact trodAll_mk1 (shut_bool Tryz.underlying4 _)
  · rw [e1]
    exact trodAll_mk3 (Below.trod laidOut (by kernel_rfl) (of_decide_eq_true (by kernel_rfl)) h0 bel (fun x hx => hlt x (by simp [hx]))) (Below.trod laidOut (by kernel_rfl) (of_decide_eq_true (by kernel_rfl)) h1 bel (fun x hx => hlt x (by simp [hx]))) (Below.trod laidOut (by kernel_rfl) (of_decide_eq_true (by kernel_rfl)) h2 bel (fun x hx => hlt x (by simp [hx])))
  · rw [e1]; rfl

theorem row_said : Rows.BarsCloseSaid :=
  OpenClaim.holds_of_cond 7 Tryz.f7 rfl rfl rfl rfl rfl rfl rfl ⟨rfl, rfl, rfl, rfl, rfl⟩ rfl rfl rfl rfl rfl (by kernel_rfl) Tryz.func7 (by kernel_rfl)
    (of_decide_eq_true (by kernel_rfl)) (by unfold Func.isWrapper; first | (rw [if_pos (by decide +kernel)]; kernel_rfl) | (rw [if_neg (by decide +kernel)]; exact ⟨rfl, rfl⟩))
    (fun os started H enc _ F => by rw [OpenClaim.pre_eq_preRow]; exact lifted os started H enc F)

/-- No parameter wants a stand-in; the program's own looks are off. -/
theorem plain (f : FuncId) (fn : Func) (hf : Tryz.pinned.checked.prog.funcNamed Rows.barsCloseRow.func = some f) (hfn : Tryz.pinned.checked.prog.funcs[f]? = some fn) :
    true = Tryz.pinned.checked.prog.looks [] ∧ ∀ (j : Nat) t, fn.params[j]? = some t → Tryz.pinned.checked.prog.wantsStandIn t = false := by
  obtain rfl : f = 7 := Option.some.inj ((show Tryz.prog.funcNamed Rows.barsCloseRow.func = some 7 by kernel_rfl).symm.trans hf) |>.symm
  obtain rfl : fn = Tryz.f7 := (Option.some.inj (Tryz.func7.symm.trans hfn)).symm
  refine ⟨by kernel_rfl, fun j t ht => ?_⟩
  rw [Tryz.params7] at ht
  have h2 : t = 52 ∨ t = 35 ∨ t = 3 := by simpa using Array.mem_of_getElem? ht
  rcases h2 with rfl | rfl | rfl
  · exact (show Tryz.prog.wantsStandIn 52 = false by kernel_rfl)
  · exact (show Tryz.prog.wantsStandIn 35 = false by kernel_rfl)
  · exact (show Tryz.prog.wantsStandIn 3 = false by kernel_rfl)

/-- The card. -/
theorem barsClose_card : Rows.BarsCloseCardSaid :=
  Claim7.holds_tied_plain_at .later [] _ _ _ _ row_said (fun _ h => by cases h) (by kernel_rfl) (fun _ h => by cases h) barsClose_row_tie rfl ⟨rfl, rfl⟩ (by kernel_rfl) rfl plain (by kernel_rfl)
#print axioms barsClose_card
end Go.Proofs.YtkcldnnopmagjabGreatDoor
