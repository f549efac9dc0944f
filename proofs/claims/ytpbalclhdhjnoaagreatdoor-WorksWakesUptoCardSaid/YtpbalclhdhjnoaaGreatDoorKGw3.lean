/- Show's own catch: the writer has given up. -/
import Derived.Test.YtpbalclhdhjnoaaGreatDoorKD6
import Derived.Test.YtpbalclhdhjnoaaGreatDoorKGw0
import Derived.Test.YtpbalclhdhjnoaaGreatDoorKWr5
import Derived.Test.YtpbalclhdhjnoaaGreatDoorKGw2
import Derived.Test.YtpbalclhdhjnoaaGreatDoorKEq0
namespace Go.Proofs.YtpbalclhdhjnoaaGreatDoor
open Go.RowKit Go.Shelf

theorem as34 (v : Value) (w : World) : (Instr.typeAssert (.iface 34 v) 20 34 false).run Tryz.prog w = .ok v w := by kernel_rfl
attribute [local go_sem] as34

set_option maxHeartbeats 2000000 in
set_option maxRecDepth 100000 in
theorem show_panicking (P0 P1 : Nat) (c : Int) (x : ByteArray) (w : World) (hne : P0 ≠ P1) (h0 : w.heap[P0]? = some (.cells #[.string x] 9 (0, 0))) (h1 : w.heap[P1]? = some (.cells #[.int .i64 0] 34 (0, 0))) :
    CallsD Tryz.prog 29 #[.pointer (some ⟨P0, 0, none⟩), .pointer (some ⟨P1, 0, none⟩)] (.panicking [{ v := .iface 34 (.int .i64 c), recovered := false }]) w fun e u' w' =>
      e = .returned (.tuple #[]) ∧ u' = .panicking [{ v := .iface 34 (.int .i64 c), recovered := true }] ∧ w' = ((w.setCell ⟨P0, 0, none⟩ (.string ⟨#[]⟩)).setCell ⟨P1, 0, none⟩ (.int .i64 c)).drew := by
  have a0 : w.cell? ⟨P0, 0, none⟩ = some (.string x) := by simp only [World.cell?, h0]; rfl
  have b0 : w.cell? ⟨P1, 0, none⟩ = some (.int .i64 0) := by simp only [World.cell?, h1]; rfl
  have fa : ∀ j, w.frozen? ⟨P0, j, none⟩ = false := fun j => by simp [World.frozen?, h0]
  have fb : ∀ j, w.frozen? ⟨P1, j, none⟩ = false := fun j => by simp [World.frozen?, h1]
  refine callsD_of_wpS Tryz.func29 rfl fun c₀ cs hu => ?_
  apply wpS_seq
  apply wpS_region
  simp [wpOpsS, go_sem, recoverD, hu, Tryz.ntmps29, Exit.thenS]
  apply wpS_seq
  apply wpS_region
  simp [wpOpsS, go_sem, Exit.thenS]
  refine wpS_cond (t := true) (by simp [Act.eval, Array.replicate]) ?_
  simp only [if_true]
  refine wpS_of_wp ?_
  simp only [Array.replicate_succ, Array.replicate_zero, List.push_toArray, List.append_toArray, List.nil_append, List.cons_append, List.setIfInBounds_toArray, List.set_cons_zero, List.set_cons_succ]
  go_region
  cases c₀
  simp_all [bodyPostS, results, Tryz.results29]
end Go.Proofs.YtpbalclhdhjnoaaGreatDoor

namespace Go.Proofs.YtpbalclhdhjnoaaGreatDoor
open Go.RowKit Go.Shelf

theorem TabAll.later {w W : World} (h : TabAll w) (hb : Below w.heap.size w W) : TabAll W := fun W' hW' => h W' (hb.trans (hW'.mono hb.size))
theorem read_lens (s : ByteArray) : lens2 (readNetM s).2 := by
  have hf : Fits (readNetM s).2 := by
    unfold readNetM
    by_cases hl : 20000 < s.size
    · rw [if_pos hl]
      exact parts_empty.fits
    · rw [if_neg hl]
      exact (readGo_shape _ _ _ _ parts_empty.fits).1
  obtain ⟨f1, f2, f3, f4, f5⟩ := hf
  exact ⟨by omega, by omega, by omega, by omega, by omega⟩
/-- Behind the two results' stores. -/
theorem show_end {w w3 : World} {x : ByteArray} (s : ByteArray) (c : Int) (h1 : w3.heap[w.heap.size + 1]? = some (.cells #[.string x] 9 (0, 0))) (h2 : w3.heap[w.heap.size + 1 + 1]? = some (.cells #[.int .i64 0] 34 (0, 0))) (hb : Below w.heap.size w w3) {w4 : World}
    (e : w4 = (w3.setCell ⟨w.heap.size + 1, 0, none⟩ (.string s)).setCell ⟨w.heap.size + 1 + 1, 0, none⟩ (.int .i64 c)) : w4.cell? ⟨w.heap.size + 1, 0, none⟩ = some (.string s) ∧ w4.cell? ⟨w.heap.size + 1 + 1, 0, none⟩ = some (.int .i64 c) ∧ Below w.heap.size w w4 := by
  have r1 : w4.heap[w.heap.size + 1]? = some (.cells #[.string s] 9 (0, 0)) := by
    rw [e, Below.heap_setCell _ _ _ _ (by show w.heap.size + 1 ≠ w.heap.size + 1 + 1; omega)]
    exact set_any h1 0 _
  have r2 : w4.heap[w.heap.size + 1 + 1]? = some (.cells #[.int .i64 c] 34 (0, 0)) := by
    rw [e]
    exact set_any ((Below.heap_setCell _ _ _ _ (by show w.heap.size + 1 + 1 ≠ w.heap.size + 1; omega)).trans h2) 0 _
  refine ⟨(cell_one r1).1, (cell_one r2).1, ?_⟩
  rw [e]
  exact (hb.setCell (p := ⟨w.heap.size + 1, 0, none⟩) (Nat.le_succ _) _).setCell (p := ⟨w.heap.size + 1 + 1, 0, none⟩) (by show w.heap.size ≤ w.heap.size + 1 + 1; omega) _
theorem may_iff {N : NetM} {T : ByteArray} (hT : T = textOf (textT (toldM N))) : MayM N ↔ ((readNetM T).1.1 = 0 ∧ (readNetM T).2 = N) := by
  subst hT
  refine ⟨fun h => by rw [may_read h]; exact ⟨rfl, rfl⟩, fun h => ?_⟩
  have := read_may h.1
  rwa [h.2] at this
/-- What Show's two results are to be. -/
def ShowOut (N : NetM) (e : Ending) : Prop := (MayM N ∧ e = .returned (.tuple #[.string (textOf (textT (toldM N))), .int .i64 0])) ∨ (¬ MayM N ∧ e = .returned (.tuple #[.string ⟨#[]⟩, .int .i64 14]))

set_option maxHeartbeats 8000000 in
set_option maxRecDepth 100000 in
theorem Show_any (N : NetM) (B1 : Nat) (b l g d t : Value) (mx : Int) (w : World) (hsm : SmallM N) (htb : TabAll w) (ho : Owns w B1 b l g d t N) (hm : w.cell? ⟨1, 0, none⟩ = some (.int .i64 mx)) :
    Calls Tryz.prog 23 #[.agg #[.string N.name, b, l, g, d, t]] w fun e w' => ShowOut N e ∧ Below w.heap.size w w' := by
  have hmf := mkf
  have h1w : 1 < w.heap.size := World.block_lt_of_cell? w _ hm
  obtain ⟨ab, cb, rfl⟩ := own_slice ho.hb
  obtain ⟨al, cl, rfl⟩ := own_slice ho.hl
  obtain ⟨ag, cg, rfl⟩ := own_slice ho.hg
  obtain ⟨ad, cd, rfl⟩ := own_slice ho.hd
  obtain ⟨at', ct, rfl⟩ := own_slice ho.ht
  obtain ⟨W, hW⟩ : ∃ W, W = showW w N.name (.slice ab N.buses.length cb) (.slice al N.lines.length cl) (.slice ag N.gens.length cg) (.slice ad N.loads.length cd) (.slice at' N.ties.length ct) := ⟨_, rfl⟩
  have h0 := show_net w N.name (.slice ab N.buses.length cb) (.slice al N.lines.length cl) (.slice ag N.gens.length cg) (.slice ad N.loads.length cd) (.slice at' N.ties.length ct)
  have h1 := show_text w N.name (.slice ab N.buses.length cb) (.slice al N.lines.length cl) (.slice ag N.gens.length cg) (.slice ad N.loads.length cd) (.slice at' N.ties.length ct)
  have h2 := show_fault w N.name (.slice ab N.buses.length cb) (.slice al N.lines.length cl) (.slice ag N.gens.length cg) (.slice ad N.loads.length cd) (.slice at' N.ties.length ct)
  have hb := show_below w N.name (.slice ab N.buses.length cb) (.slice al N.lines.length cl) (.slice ag N.gens.length cg) (.slice ad N.loads.length cd) (.slice at' N.ties.length ct)
  have hz := show_size w N.name (.slice ab N.buses.length cb) (.slice al N.lines.length cl) (.slice ag N.gens.length cg) (.slice ad N.loads.length cd) (.slice at' N.ties.length ct)
  rw [← hW] at h0 h1 h2 hb hz
  have htell := tell_any N B1 _ _ _ _ _ W hsm (htb.later hb) (ownsL ho hb)
  unfold showW at hW
  have HW := hide' hW
  have H0 := hide' h0
  have H1 := hide' h1
  have H2 := hide' h2
  have HB := hide' hb
  have HZ := hide' hz
  have HT := hide' htell
  have HM := hide' hm
  have HSM := hide' hsm
  have HO := hide' ho
  have H1W := hide' h1w
  clear hW h0 h1 h2 hb hz htell hm hsm ho h1w htb
  go_enter_defers Tryz.func23, Tryz.ntmps23
  go_wp2_with fail
  rw [← HW.out]
  refine HT.out.mono ?_
  rintro e w1 ⟨⟨rfl, hle⟩ | ⟨rfl, hnm⟩, hb1⟩
  rotate_left
  · have hz := HZ.out
    have q1 := (hb1.block (w.heap.size + 1) (by omega)).trans H1.out
    have q2 := (hb1.block (w.heap.size + 1 + 1) (by omega)).trans H2.out
    have hbw : Below w.heap.size w w1 := HB.out.trans (hb1.mono (by omega))
    refine leaves_cons (f := 29) (args := #[.pointer (some ⟨w.heap.size + 1, 0, none⟩), .pointer (some ⟨w.heap.size + 1 + 1, 0, none⟩)]) (by simp) (by simp [go_sem]) ?_
    refine (show_panicking (w.heap.size + 1) (w.heap.size + 1 + 1) 14 ⟨#[]⟩ w1 (by omega) q1 q2).mono ?_
    rintro e u' w2 ⟨rfl, rfl, hw2⟩
    have r1 : w2.heap[w.heap.size + 1]? = some (.cells #[.string ⟨#[]⟩] 9 (0, 0)) := by
      rw [hw2, drew_at, Below.heap_setCell _ _ _ _ (by show w.heap.size + 1 ≠ w.heap.size + 1 + 1; omega)]
      exact set_any q1 0 _
    have r2 : w2.heap[w.heap.size + 1 + 1]? = some (.cells #[.int .i64 14] 34 (0, 0)) := by
      rw [hw2, drew_at]
      exact set_any ((Below.heap_setCell _ _ _ _ (by show w.heap.size + 1 + 1 ≠ w.heap.size + 1; omega)).trans q2) 0 _
    have hbel : Below w.heap.size w w2 := by
      rw [hw2]
      exact below_drew1 ((hbw.setCell (p := ⟨w.heap.size + 1, 0, none⟩) (Nat.le_succ _) _).setCell (p := ⟨w.heap.size + 1 + 1, 0, none⟩) (by show w.heap.size ≤ w.heap.size + 1 + 1; omega) _)
    obtain ⟨c1, -⟩ := cell_one r1
    obtain ⟨c2, -⟩ := cell_one r2
    refine ⟨.tuple #[.string ⟨#[]⟩, .int .i64 14], ?_, .inr ⟨hnm, rfl⟩, hbel⟩
    simp [results, Tryz.results23, go_sem, c1, c2]
  obtain ⟨T, hT⟩ : ∃ T, T = textOf (textT (toldM N)) := ⟨_, rfl⟩
  have hTs : T.size ≤ 9223372036854775807 := by rw [hT, size_textOf]; omega
  have hiff := may_iff hT
  have hlens := read_lens T
  rw [← hT]
  have HTT := hide' hT
  obtain ⟨k1, f1⟩ := cell_one ((hb1.block (w.heap.size + 1) (by have := HZ.out; omega)).trans H1.out)
  clear hT hle
  go_wp2_with fail
  obtain ⟨W1, hW1⟩ : ∃ W1, W1 = w1.setCell ⟨w.heap.size + 1, 0, none⟩ (.string T) := ⟨_, rfl⟩
  have hz := HZ.out
  have hs1 := hb1.size
  have g0 : W1.heap[w.heap.size]? = some (.cells #[.string N.name, .slice ab N.buses.length cb, .slice al N.lines.length cl, .slice ag N.gens.length cg, .slice ad N.loads.length cd, .slice at' N.ties.length ct] 28 (0, 0)) := by rw [hW1]; exact (Below.heap_setCell _ _ _ _ (by simp)).trans ((hb1.block _ (by omega)).trans H0.out)
  have g1 : W1.heap[w.heap.size + 1]? = some (.cells #[.string T] 9 (0, 0)) := by rw [hW1]; exact set_any ((hb1.block (w.heap.size + 1) (by omega)).trans H1.out) 0 (.string T)
  have g2 : W1.heap[w.heap.size + 1 + 1]? = some (.cells #[.int .i64 0] 34 (0, 0)) := by rw [hW1]; exact (Below.heap_setCell _ _ _ _ (by simp)).trans ((hb1.block _ (by omega)).trans H2.out)
  have gb : Below w.heap.size w W1 := by rw [hW1]; exact (HB.out.trans (hb1.mono (by omega))).setCell (p := ⟨w.heap.size + 1, 0, none⟩) (Nat.le_succ _) _
  have gs : w.heap.size + 3 ≤ W1.heap.size := by rw [hW1, World.size_setCell]; omega
  have h6 := Read_any T mx W1 hTs ((gb.cell (p := ⟨1, 0, none⟩) H1W.out).trans HM.out)
  obtain ⟨⟨⟨c, a⟩, N2⟩, hR⟩ : ∃ R, R = readNetM T := ⟨_, rfl⟩
  rw [← hR] at h6 hiff hlens
  rw [← hW1]
  have H6 := hide' h6
  have HIF := hide' hiff
  have HLN := hide' hlens
  have G0 := hide' g0
  have G1 := hide' g1
  have G2 := hide' g2
  have GB := hide' gb
  have GS := hide' gs
  clear hW1 hz hs1 g0 g1 g2 gb gs h6 hb1 k1 f1 HT HM H1W HW H0 H1 H2 HB HZ hiff hlens hR hTs
  refine H6.out.mono ?_
  rintro e w2 ⟨b2, l2, g2, d2, t2, rfl, ho2, hb2⟩
  obtain ⟨ab2, cb2, rfl⟩ := own_slice ho2.hb
  obtain ⟨al2, cl2, rfl⟩ := own_slice ho2.hl
  obtain ⟨ag2, cg2, rfl⟩ := own_slice ho2.hg
  obtain ⟨ad2, cd2, rfl⟩ := own_slice ho2.hd
  obtain ⟨at2, ct2, rfl⟩ := own_slice ho2.ht
  clear H6
  have hgs := GS.out
  have hs2 := hb2.size
  have hbw2 : Below w.heap.size w w2 := GB.out.trans (hb2.mono (by omega))
  have hpair : ∀ o o', Below w2.heap.size w2 ((w2.alloc o).alloc o') := fun o o' => ((Below.refl _ w2).alloc (Nat.le_refl _) o).alloc (by simp) o'
  have g0 := (hb2.block w.heap.size (by omega)).trans G0.out
  have k1 := (hb2.block (w.heap.size + 1) (by omega)).trans G1.out
  have k2 := (hb2.block (w.heap.size + 1 + 1) (by omega)).trans G2.out
  have KW1 := hide' k1
  have KW2 := hide' k2
  have k1p : ∀ o o', ((w2.alloc o).alloc o').heap[w.heap.size + 1]? = some (.cells #[.string T] 9 (0, 0)) := fun o o' => ((hpair o o').block _ (by omega)).trans k1
  have k2p : ∀ o o', ((w2.alloc o).alloc o').heap[w.heap.size + 1 + 1]? = some (.cells #[.int .i64 0] 34 (0, 0)) := fun o o' => ((hpair o o').block _ (by omega)).trans k2
  have c1p := fun o o' => (cell_one (k1p o o')).1
  have f1p := fun o o' => (cell_one (k1p o o')).2
  have c2p := fun o o' => (cell_one (k2p o o')).1
  have f2p := fun o o' => (cell_one (k2p o o')).2
  have K1P := hide' k1p
  have K2P := hide' k2p
  have HPR := hide' hpair
  have HBW2 := hide' hbw2
  have HLT : Hid (w.heap.size + 3 ≤ w2.heap.size) := by show w.heap.size + 3 ≤ w2.heap.size; omega
  by_cases hc : c = 0
  rotate_left
  · have hcn : (c != 0) = true := by simpa using hc
    have HNM : Hid (¬ MayM N) := fun h => hc (HIF.out.1 h).1
    clear ho2 hb2 g0 hgs hs2 hbw2 hpair k1 k2 k1p k2p hc
    go_wp2
    obtain ⟨w4, hw4⟩ : ∃ w4, w4 = (((w2.alloc (.cells #[.string N2.name, .slice ab2 N2.buses.length cb2, .slice al2 N2.lines.length cl2, .slice ag2 N2.gens.length cg2, .slice ad2 N2.loads.length cd2, .slice at2 N2.ties.length ct2] 28)).alloc (.cells #[.int .i64 c, .int .i64 a] 66)).setCell ⟨w.heap.size + 1, 0, none⟩ (.string ⟨#[]⟩)).setCell ⟨w.heap.size + 1 + 1, 0, none⟩ (.int .i64 14) := ⟨_, rfl⟩
    obtain ⟨q1, q2, hbel⟩ := show_end ⟨#[]⟩ 14 (K1P.out _ _) (K2P.out _ _) (HBW2.out.trans ((HPR.out _ _).mono HBW2.out.size)) hw4
    rw [← hw4]
    clear hw4
    refine leaves_cons (f := 29) (args := #[.pointer (some ⟨w.heap.size + 1, 0, none⟩), .pointer (some ⟨w.heap.size + 1 + 1, 0, none⟩)]) (by simp) (by simp [go_sem]) ?_
    refine (show_idle ⟨w.heap.size + 1, 0, none⟩ ⟨w.heap.size + 1 + 1, 0, none⟩ w4).mono ?_
    rintro e u' w5 ⟨rfl, rfl, rfl⟩
    refine ⟨.tuple #[.string ⟨#[]⟩, .int .i64 14], ?_, .inr ⟨HNM.out, rfl⟩, hbel⟩
    simp [results, Tryz.results23, go_sem, q1, q2]
  subst hc
  have hsame : ∀ o o', Calls Tryz.prog 32 #[.agg #[.string N2.name, .slice ab2 N2.buses.length cb2, .slice al2 N2.lines.length cl2, .slice ag2 N2.gens.length cg2, .slice ad2 N2.loads.length cd2, .slice at2 N2.ties.length ct2], .agg #[.string N.name, .slice ab N.buses.length cb, .slice al N.lines.length cl, .slice ag N.gens.length cg, .slice ad N.loads.length cd, .slice at' N.ties.length ct]] ((w2.alloc o).alloc o') fun e w' => (∃ r : Bool, e = .returned (.bool r) ∧ (r = true ↔ N2 = N)) ∧ Below ((w2.alloc o).alloc o').heap.size ((w2.alloc o).alloc o') w' := fun o o' =>
    same_iff N2 N _ _ _ _ _ _ _ _ _ _ _ _ _ HLN.out HSM.out.lens (ownsL ho2 (hpair o o')) (ownsL (ownsL HO.out hbw2) (hpair o o'))
  have HSA := hide' hsame
  have later2 : ∀ {p : Addr} {v : Value}, w2.cell? p = some v → ∀ o o', ((w2.alloc o).alloc o').cell? p = some v := fun h o o' => later (W := w2.alloc o) (later h o) o'
  obtain ⟨n0, n1, n2, n3, n4, n5, _⟩ := cells28 g0
  have m0 := later2 n0
  have m1 := later2 n1
  have m2 := later2 n2
  have m3 := later2 n3
  have m4 := later2 n4
  have m5 := later2 n5
  clear ho2 hb2 g0 n0 n1 n2 n3 n4 n5 hgs hs2 hbw2 hpair hsame later2 k1 k2 k1p k2p c1p f1p c2p f2p
  go_wp2_with fail
  refine (HSA.out _ _).mono ?_
  rintro e w3 ⟨⟨r, rfl, hr⟩, hb3⟩
  have hp3 := (HPR.out (.cells #[.string N2.name, .slice ab2 N2.buses.length cb2, .slice al2 N2.lines.length cl2, .slice ag2 N2.gens.length cg2, .slice ad2 N2.loads.length cd2, .slice at2 N2.ties.length ct2] 28) (.cells #[.int .i64 0, .int .i64 a] 66)).trans (hb3.mono (by simp; omega))
  have z1 := (hp3.block (w.heap.size + 1) (by have := HLT.out; omega)).trans KW1.out
  have z2 := (hp3.block (w.heap.size + 1 + 1) (by have := HLT.out; omega)).trans KW2.out
  have hb4 : Below w.heap.size w w3 := HBW2.out.trans (hp3.mono HBW2.out.size)
  obtain ⟨c1, f1⟩ := cell_one z1
  obtain ⟨c2, f2⟩ := cell_one z2
  have Z1 := hide' z1
  have Z2 := hide' z2
  have HB4 := hide' hb4
  have HRR := hide' hr
  clear hb3 hp3 z1 z2 hb4 hr m0 m1 m2 m3 m4 m5
  cases r with
  | true =>
    have HMY : Hid (MayM N) := HIF.out.2 ⟨trivial, HRR.out.1 rfl⟩
    clear HRR HIF
    go_wp2
    obtain ⟨w4, hw4⟩ : ∃ w4, w4 = (w3.setCell ⟨w.heap.size + 1, 0, none⟩ (.string T)).setCell ⟨w.heap.size + 1 + 1, 0, none⟩ (.int .i64 0) := ⟨_, rfl⟩
    obtain ⟨q1, q2, hbel⟩ := show_end T 0 Z1.out Z2.out HB4.out hw4
    rw [← hw4]
    clear hw4
    refine leaves_cons (f := 29) (args := #[.pointer (some ⟨w.heap.size + 1, 0, none⟩), .pointer (some ⟨w.heap.size + 1 + 1, 0, none⟩)]) (by simp) (by simp [go_sem]) ?_
    refine (show_idle ⟨w.heap.size + 1, 0, none⟩ ⟨w.heap.size + 1 + 1, 0, none⟩ w4).mono ?_
    rintro e u' w5 ⟨rfl, rfl, rfl⟩
    refine ⟨.tuple #[.string T, .int .i64 0], ?_, .inl ⟨HMY.out, by rw [← HTT.out]⟩, hbel⟩
    simp [results, Tryz.results23, go_sem, q1, q2]
  | false =>
    have HNM : Hid (¬ MayM N) := fun h => by
      have := HRR.out.2 (HIF.out.1 h).2
      cases this
    clear HRR HIF
    go_wp2
    obtain ⟨w4, hw4⟩ : ∃ w4, w4 = (w3.setCell ⟨w.heap.size + 1, 0, none⟩ (.string ⟨#[]⟩)).setCell ⟨w.heap.size + 1 + 1, 0, none⟩ (.int .i64 14) := ⟨_, rfl⟩
    obtain ⟨q1, q2, hbel⟩ := show_end ⟨#[]⟩ 14 Z1.out Z2.out HB4.out hw4
    rw [← hw4]
    clear hw4
    refine leaves_cons (f := 29) (args := #[.pointer (some ⟨w.heap.size + 1, 0, none⟩), .pointer (some ⟨w.heap.size + 1 + 1, 0, none⟩)]) (by simp) (by simp [go_sem]) ?_
    refine (show_idle ⟨w.heap.size + 1, 0, none⟩ ⟨w.heap.size + 1 + 1, 0, none⟩ w4).mono ?_
    rintro e u' w5 ⟨rfl, rfl, rfl⟩
    refine ⟨.tuple #[.string ⟨#[]⟩, .int .i64 14], ?_, .inr ⟨HNM.out, rfl⟩, hbel⟩
    simp [results, Tryz.results23, go_sem, q1, q2]
end Go.Proofs.YtpbalclhdhjnoaaGreatDoor

namespace Go.Proofs.YtpbalclhdhjnoaaGreatDoor
open Go.RowKit Go.Shelf

set_option maxHeartbeats 1000000 in
theorem May_any (N : NetM) (B1 : Nat) (b l g d t : Value) (mx : Int) (w : World) (hsm : SmallM N) (htb : TabAll w) (ho : Owns w B1 b l g d t N) (hm : w.cell? ⟨1, 0, none⟩ = some (.int .i64 mx)) :
    Calls Tryz.prog 14 #[.agg #[.string N.name, b, l, g, d, t]] w fun e w' => (∃ r : Bool, e = .returned (.bool r) ∧ (r = true ↔ MayM N)) ∧ Below w.heap.size w w' := by
  obtain ⟨ab, cb, rfl⟩ := own_slice ho.hb
  obtain ⟨al, cl, rfl⟩ := own_slice ho.hl
  obtain ⟨ag, cg, rfl⟩ := own_slice ho.hg
  obtain ⟨ad, cd, rfl⟩ := own_slice ho.hd
  obtain ⟨at', ct, rfl⟩ := own_slice ho.ht
  have hb0 : ∀ o, Below w.heap.size w (w.alloc o) := fun o => (Below.refl _ w).alloc (Nat.le_refl _) o
  have HS := hide' (fun o => Show_any N B1 _ _ _ _ _ mx (w.alloc o) hsm (htb.later (hb0 o)) (ownsL ho (hb0 o)) (later hm o))
  have HB := hide' hb0
  clear ho hm hb0 hsm htb
  go_enter Tryz.func14, Tryz.ntmps14
  go_wp2_with fail
  refine (HS.out _).mono ?_
  rintro e w1 ⟨⟨hmay, rfl⟩ | ⟨hno, rfl⟩, hb1⟩
  · have HM := hide' hmay
    clear hmay
    go_wp2
    go_ret
    exact ⟨⟨true, rfl, fun _ => HM.out, fun _ => rfl⟩, (HB.out _).trans (hb1.mono (by simp))⟩
  · have HN := hide' hno
    clear hno
    go_wp2
    go_ret
    exact ⟨⟨false, rfl, fun h => (by cases h), fun h => absurd h HN.out⟩, (HB.out _).trans (hb1.mono (by simp))⟩
end Go.Proofs.YtpbalclhdhjnoaaGreatDoor
