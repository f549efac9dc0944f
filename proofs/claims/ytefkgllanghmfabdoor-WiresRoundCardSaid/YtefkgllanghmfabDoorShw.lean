/- Show, the program's face, over a good network: its text, and no fault. -/
import Derived.Test.YtefkgllanghmfabDoorWr6
import Derived.Test.YtefkgllanghmfabDoorSh1
import Derived.Test.YtefkgllanghmfabDoorD8
namespace Go.Proofs.YtefkgllanghmfabDoor
open Go.RowKit Go.Shelf

set_option maxHeartbeats 800000 in
theorem show_idle (p0 p1 : Addr) (w : World) :
    CallsD Tryd.prog 10 #[.pointer (some p0), .pointer (some p1)] .returning w fun e u' w' => e = .returned (.tuple #[]) ∧ u' = .returning ∧ w' = w := by
  refine callsD_of_wpS Tryd.func10 rfl fun c₀ cs hu => ?_
  apply wpS_seq
  apply wpS_region
  simp [wpOpsS, go_sem, recoverD, hu, Tryd.ntmps10, Exit.thenS]
  apply wpS_seq
  apply wpS_region
  simp [wpOpsS, go_sem, Exit.thenS]
  refine wpS_cond (t := false) (by simp [Act.eval, Array.replicate]) ?_
  simp only [Bool.false_eq_true, if_false]
  refine wpS_of_wp (wp_skip ?_)
  cases c₀
  simp_all [bodyPostS, results, Tryd.results10]

/-- The world when the network is boxed and the two results' boxes are laid. -/
def showW (w : World) (nm : ByteArray) (b l g d t : Value) : World := ((w.alloc (.cells #[.string nm, b, l, g, d, t] 32)).alloc (.cells #[.string ⟨#[]⟩] 9)).alloc (.cells #[.int .i64 0] 34)
theorem show_size (w : World) (nm : ByteArray) (b l g d t : Value) : (showW w nm b l g d t).heap.size = w.heap.size + 3 := by simp [showW]
theorem show_below (w : World) (nm : ByteArray) (b l g d t : Value) : Below w.heap.size w (showW w nm b l g d t) := (((Below.refl _ w).alloc (Nat.le_refl _) _).alloc (by simp) _).alloc (by simp; omega) _
theorem show_net (w : World) (nm : ByteArray) (b l g d t : Value) : (showW w nm b l g d t).heap[w.heap.size]? = some (.cells #[.string nm, b, l, g, d, t] 32 (0, 0)) :=
  (Below.heap_alloc _ _ _ (by simp; omega)).trans ((Below.heap_alloc _ _ _ (by simp)).trans (World.alloc_heap_new w _))
theorem show_text (w : World) (nm : ByteArray) (b l g d t : Value) : (showW w nm b l g d t).heap[w.heap.size + 1]? = some (.cells #[.string ⟨#[]⟩] 9 (0, 0)) := by
  have := World.alloc_heap_new (w.alloc (.cells #[.string nm, b, l, g, d, t] 32)) (.cells #[.string ⟨#[]⟩] 9)
  rw [World.size_alloc] at this
  exact (Below.heap_alloc _ _ _ (by simp)).trans this
theorem show_fault (w : World) (nm : ByteArray) (b l g d t : Value) : (showW w nm b l g d t).heap[w.heap.size + 2]? = some (.cells #[.int .i64 0] 34 (0, 0)) := by
  have := World.alloc_heap_new ((w.alloc (.cells #[.string nm, b, l, g, d, t] 32)).alloc (.cells #[.string ⟨#[]⟩] 9)) (.cells #[.int .i64 0] 34)
  rw [World.size_alloc, World.size_alloc] at this
  exact this
theorem cell_one {w : World} {p t : Nat} {v : Value} (h : w.heap[p]? = some (.cells #[v] t (0, 0))) : w.cell? ⟨p, 0, none⟩ = some v ∧ w.frozen? ⟨p, 0, none⟩ = false :=
  ⟨by simp only [World.cell?, h]; rfl, by simp [World.frozen?, h]⟩

set_option maxHeartbeats 4000000 in
set_option maxRecDepth 100000 in
theorem Show_good (N : NetM) (B1 : Nat) (b l g d t : Value) (mx : Int) (w : World) (hN : GoodM N) (ho : Owns w B1 b l g d t N) (hm : w.cell? ⟨1, 0, none⟩ = some (.int .i64 mx)) :
    Calls Tryd.prog 5 #[.agg #[.string N.name, b, l, g, d, t]] w fun e w' => e = .returned (.tuple #[.string (textOf (textT (toldN N))), .int .i64 0]) ∧ Below w.heap.size w w' := by
  have hmf := mkf
  have h1w : 1 < w.heap.size := World.block_lt_of_cell? w _ hm
  obtain ⟨ab, cb, rfl⟩ := own_slice ho.hb
  obtain ⟨al, cl, rfl⟩ := own_slice ho.hl
  obtain ⟨ag, cg, rfl⟩ := own_slice ho.hg
  obtain ⟨ad, cd, rfl⟩ := own_slice ho.hd
  obtain ⟨at', ct, rfl⟩ := own_slice ho.ht
  obtain ⟨W, hW⟩ : ∃ W, W = showW w N.name (.slice ab N.buses.length cb) (.slice al N.lines.length cl) (.slice ag N.gens.length cg) (.slice ad N.loads.length cd) (.slice at' N.ties.length ct) := ⟨_, rfl⟩
  have h0 := show_net w N.name (.slice ab N.buses.length cb) (.slice al N.lines.length cl) (.slice ag N.gens.length cg) (.slice ad N.loads.length cd) (.slice at' N.ties.length ct)
  have h1 := show_text w N.name (.slice ab N.buses.length cb) (.slice al N.lines.length cl) (.slice ag N.gens.length cg) (.slice ad N.loads.length cd) (.slice at' N.ties.length ct)
  have h2 := show_fault w N.name (.slice ab N.buses.length cb) (.slice al N.lines.length cl) (.slice ag N.gens.length cg) (.slice ad N.loads.length cd) (.slice at' N.ties.length ct)
  have hb := show_below w N.name (.slice ab N.buses.length cb) (.slice al N.lines.length cl) (.slice ag N.gens.length cg) (.slice ad N.loads.length cd) (.slice at' N.ties.length ct)
  have hz := show_size w N.name (.slice ab N.buses.length cb) (.slice al N.lines.length cl) (.slice ag N.gens.length cg) (.slice ad N.loads.length cd) (.slice at' N.ties.length ct)
  rw [← hW] at h0 h1 h2 hb hz
  have htell := tell_ok N B1 _ _ _ _ _ W hN (told_len hN) (owns_later ho hb)
  obtain ⟨T, hT⟩ : ∃ T, T = textOf (textT (toldN N)) := ⟨_, rfl⟩
  have hread := good_read hN
  have hTs : T.size ≤ 9223372036854775807 := by rw [hT, size_textOf]; have := told_len hN; omega
  rw [← hT] at htell hread ⊢
  unfold showW at hW
  have HW := hide' hW
  have H0 := hide' h0
  have H1 := hide' h1
  have H2 := hide' h2
  have HB := hide' hb
  have HZ := hide' hz
  have HT := hide' htell
  have HR := hide' hread
  have HM := hide' hm
  have HG := hide' hN
  have HO := hide' ho
  have H1W := hide' h1w
  have HTS := hide' hTs
  clear hW h0 h1 h2 hb hz htell hread hm hN ho h1w hT hTs
  go_enter_defers Tryd.func5, Tryd.ntmps5
  go_wp2_with (first
    | (go_at_call 11; go_must (rw [← HW.out]; refine HT.out.mono ?_; rintro e w1 ⟨rfl, hb1⟩; obtain ⟨k1, f1⟩ := cell_one ((hb1.block (w.heap.size + 1) (by have := HZ.out; omega)).trans H1.out))))
  obtain ⟨W1, hW1⟩ : ∃ W1, W1 = w1.setCell ⟨w.heap.size + 1, 0, none⟩ (.string T) := ⟨_, rfl⟩
  have hz := HZ.out
  have hs1 := hb1.size
  have g0 : W1.heap[w.heap.size]? = some (.cells #[.string N.name, .slice ab N.buses.length cb, .slice al N.lines.length cl, .slice ag N.gens.length cg, .slice ad N.loads.length cd, .slice at' N.ties.length ct] 32 (0, 0)) := by rw [hW1]; exact (Below.heap_setCell _ _ _ _ (by simp)).trans ((hb1.block _ (by omega)).trans H0.out)
  have g1 : W1.heap[w.heap.size + 1]? = some (.cells #[.string T] 9 (0, 0)) := by rw [hW1]; exact set_any ((hb1.block (w.heap.size + 1) (by omega)).trans H1.out) 0 (.string T)
  have g2 : W1.heap[w.heap.size + 2]? = some (.cells #[.int .i64 0] 34 (0, 0)) := by rw [hW1]; exact (Below.heap_setCell _ _ _ _ (by simp)).trans ((hb1.block _ (by omega)).trans H2.out)
  have gb : Below w.heap.size w W1 := by rw [hW1]; exact (HB.out.trans (hb1.mono (by omega))).setCell (p := ⟨w.heap.size + 1, 0, none⟩) (Nat.le_succ _) _
  have gs : w.heap.size + 3 ≤ W1.heap.size := by rw [hW1, World.size_setCell]; omega
  have h6 := Read_any T mx W1 HTS.out ((gb.cell (p := ⟨1, 0, none⟩) H1W.out).trans HM.out)
  rw [HR.out] at h6
  rw [← hW1]
  have H6 := hide' h6
  have G0 := hide' g0
  have G1 := hide' g1
  have G2 := hide' g2
  have GB := hide' gb
  have GS := hide' gs
  clear hW1 hz hs1 g0 g1 g2 gb gs h6 hb1 k1 f1 HT HR HM HTS H1W HW H0 H1 H2 HB HZ
  refine H6.out.mono ?_
  rintro e w2 ⟨b2, l2, g2, d2, t2, rfl, ho2, hb2⟩
  obtain ⟨ab2, cb2, rfl⟩ := own_slice ho2.hb
  obtain ⟨al2, cl2, rfl⟩ := own_slice ho2.hl
  obtain ⟨ag2, cg2, rfl⟩ := own_slice ho2.hg
  obtain ⟨ad2, cd2, rfl⟩ := own_slice ho2.hd
  obtain ⟨at2, ct2, rfl⟩ := own_slice ho2.ht
  have HO2 := hide' ho2
  have HB2 := hide' hb2
  clear H6
  have later2 : ∀ {p : Addr} {v : Value}, w2.cell? p = some v → ∀ o o', ((w2.alloc o).alloc o').cell? p = some v := fun h o o' => later (W := w2.alloc o) (later h o) o'
  have hgs := GS.out
  have hs2 := hb2.size
  have g0 := (hb2.block w.heap.size (by omega)).trans G0.out
  obtain ⟨n0, n1, n2, n3, n4, n5, _⟩ := cells28 g0
  have m0 := later2 n0
  have m1 := later2 n1
  have m2 := later2 n2
  have m3 := later2 n3
  have m4 := later2 n4
  have m5 := later2 n5
  have hbw2 : Below w.heap.size w w2 := GB.out.trans (hb2.mono (by omega))
  have HBW2 := hide' hbw2
  have hpair : ∀ o o', Below w2.heap.size w2 ((w2.alloc o).alloc o') := fun o o' => ((Below.refl _ w2).alloc (Nat.le_refl _) o).alloc (by simp) o'
  have hsame : ∀ o o', Calls Tryd.prog 12 #[.agg #[.string N.name, .slice ab2 N.buses.length cb2, .slice al2 N.lines.length cl2, .slice ag2 N.gens.length cg2, .slice ad2 N.loads.length cd2, .slice at2 N.ties.length ct2], .agg #[.string N.name, .slice ab N.buses.length cb, .slice al N.lines.length cl, .slice ag N.gens.length cg, .slice ad N.loads.length cd, .slice at' N.ties.length ct]] ((w2.alloc o).alloc o') fun e w' => e = .returned (.bool true) ∧ Below ((w2.alloc o).alloc o').heap.size ((w2.alloc o).alloc o') w' := fun o o' =>
    same_any N _ _ _ _ _ _ _ _ _ _ _ _ _ HG.out (owns_later ho2 (hpair o o')) (owns_later (owns_later HO.out hbw2) (hpair o o'))
  have HSM := hide' hsame
  have HPR := hide' hpair
  have k1 := (hb2.block (w.heap.size + 1) (by omega)).trans G1.out
  have k2 := (hb2.block (w.heap.size + 2) (by omega)).trans G2.out
  have K1 := hide' k1
  have K2 := hide' k2
  have HLT : Hid (w.heap.size + 3 ≤ w2.heap.size) := by show w.heap.size + 3 ≤ w2.heap.size; omega
  clear ho2 hb2 g0 n0 n1 n2 n3 n4 n5 hgs hs2 hbw2 hpair hsame later2 k1 k2 HO2 HB2 GB GS G0 G1 G2
  go_wp2_with (go_at_call 12; refine (HSM.out _ _).mono ?_; rintro e w3 ⟨rfl, hb3⟩; have hp3 := (HPR.out _ _).trans (hb3.mono (by simp; omega)); have K13 := (hp3.block (w.heap.size + 1) (by have := HLT.out; omega)).trans K1.out; have K23 := (hp3.block (w.heap.size + 2) (by have := HLT.out; omega)).trans K2.out; obtain ⟨c1, f1⟩ := cell_one K13; obtain ⟨c2, f2⟩ := cell_one K23; have HP3 := hide' hp3; have HK1 := hide' K13; have HK2 := hide' K23; clear hb3 hp3 K13 K23)
  obtain ⟨w4, hw4⟩ : ∃ w4, w4 = (w3.setCell ⟨w.heap.size + 1, 0, none⟩ (.string T)).setCell ⟨w.heap.size + 1 + 1, 0, none⟩ (.int .i64 0) := ⟨_, rfl⟩
  have e1 := set_any HK1.out 0 (.string T)
  have e2 : (w3.setCell ⟨w.heap.size + 1, 0, none⟩ (.string T)).heap[w.heap.size + 2]? = some (.cells #[.int .i64 0] 34 (0, 0)) := (Below.heap_setCell _ _ _ _ (by simp)).trans HK2.out
  have e3 := set_any e2 0 (.int .i64 0)
  have e4 : w4.heap[w.heap.size + 1]? = some (.cells #[.string T] 9 (0, 0)) := by rw [hw4]; exact (Below.heap_setCell _ _ _ _ (by simp)).trans e1
  have e5 : w4.heap[w.heap.size + 1 + 1]? = some (.cells #[.int .i64 0] 34 (0, 0)) := by rw [hw4]; exact e3
  have hbel : Below w.heap.size w w4 := by
    rw [hw4]
    exact ((HBW2.out.trans (HP3.out.mono HBW2.out.size)).setCell (p := ⟨w.heap.size + 1, 0, none⟩) (Nat.le_succ _) _).setCell (p := ⟨w.heap.size + 1 + 1, 0, none⟩) (by show w.heap.size ≤ w.heap.size + 1 + 1; omega) _
  rw [← hw4]
  obtain ⟨q1, -⟩ := cell_one e4
  obtain ⟨q2, -⟩ := cell_one e5
  clear hw4 e1 e2 e3 e4 e5
  refine leaves_cons (f := 10) (args := #[.pointer (some ⟨w.heap.size + 1, 0, none⟩), .pointer (some ⟨w.heap.size + 1 + 1, 0, none⟩)]) (by simp) (by simp [go_sem]) ?_
  refine (show_idle ⟨w.heap.size + 1, 0, none⟩ ⟨w.heap.size + 1 + 1, 0, none⟩ w4).mono ?_
  rintro e u' w5 ⟨rfl, rfl, rfl⟩
  refine ⟨.tuple #[.string T, .int .i64 0], ?_, rfl, hbel⟩
  simp [results, Tryd.results5, go_sem, q1, q2]
end Go.Proofs.YtefkgllanghmfabDoor
