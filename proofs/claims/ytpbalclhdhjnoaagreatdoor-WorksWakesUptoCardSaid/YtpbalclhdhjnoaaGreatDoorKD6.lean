/- Read, the program's face: a panic of the reader is caught and told as the fault. -/
import Derived.Test.YtpbalclhdhjnoaaGreatDoorKD5
import Derived.Defers
import Derived.Recover
import Derived.Laws.Pointers
namespace Go.Proofs.YtpbalclhdhjnoaaGreatDoor
open Go.RowKit Go.Maps

attribute [local go_sem] run_makeMap_plain

set_option maxHeartbeats 800000 in
theorem read_long (s : ByteArray) (w : World) (hs : 20000 < s.size) (hm : s.size ≤ 9223372036854775807) :
    Calls Tryz.prog 40 #[.string s] w fun e w' => e = gaveUp 2 0 ∧ Below w.heap.size w w' := by
  refine calls_of_wpF Tryz.func40 rfl ?_
  simp only [Tryz.ntmps40, List.size_toArray, List.length_cons, List.length_nil, Nat.reduceAdd, Nat.reduceSub, Array.replicate_succ, Array.replicate_zero, List.push_toArray, List.append_toArray, List.nil_append, List.cons_append]
  refine wpF_seq ?_
  go_wp2
  refine wpF_seq ?_
  go_wp2
  obtain ⟨W0, hW0⟩ : ∃ W0, W0 = startW w := ⟨_, rfl⟩
  have hb0 := start_below w
  obtain ⟨b, l, g, d, t, wv, hst⟩ := start_st w
  have c7 : (startW w).cell? ⟨w.heap.size + 1 + 1, 7, none⟩ = some (.int .i64 0) := hst.cell 7 rfl
  rw [← hW0] at hb0 c7
  unfold startW at hW0
  rw [← hW0]
  clear hW0 hst
  obtain ⟨K, hK⟩ : ∃ K, K = w.heap.size + 1 + 1 := ⟨_, rfl⟩
  rw [← hK] at c7 ⊢
  have HB := hide' hb0
  have hd : decide ((s.size : Int) ≤ 20000) = false := by simp; omega
  clear hK hb0
  refine wpF_seq ?_
  go_wp2_with (go_at_call 51; refine (insist_no K 2 0 W0 c7).mono ?_; rintro e w' ⟨rfl, rfl⟩)
  exact ⟨rfl, HB.out⟩

set_option maxHeartbeats 800000 in
theorem catch_idle (p0 p1 : Addr) (w : World) :
    CallsD Tryz.prog 39 #[.pointer (some p0), .pointer (some p1)] .returning w fun e u' w' => e = .returned (.tuple #[]) ∧ u' = .returning ∧ w' = w := by
  refine callsD_of_wpS Tryz.func39 rfl fun c₀ cs hu => ?_
  apply wpS_seq
  apply wpS_region
  simp [wpOpsS, go_sem, recoverD, hu, Tryz.ntmps39, Exit.thenS]
  apply wpS_seq
  apply wpS_region
  simp [wpOpsS, go_sem, Exit.thenS]
  refine wpS_cond (t := false) (by simp [Act.eval, Array.replicate]) ?_
  simp only [Bool.false_eq_true, if_false]
  refine wpS_of_wp (wp_skip ?_)
  cases c₀
  simp_all [bodyPostS, results, Tryz.results39]

theorem as31 (v : Value) (w : World) : (Instr.typeAssert (.iface 66 v) 20 66 false).run Tryz.prog w = .ok v w := by kernel_rfl
attribute [local go_sem] as31

set_option maxHeartbeats 2000000 in
set_option maxRecDepth 100000 in
theorem catch_panicking (P0 P1 : Nat) (c at_ : Int) (w : World) (hne : P0 ≠ P1) (h0 : w.heap[P0]? = some (.cells #[.string ⟨#[]⟩, .slice none 0 0, .slice none 0 0, .slice none 0 0, .slice none 0 0, .slice none 0 0] 28 (0, 0))) (h1 : w.heap[P1]? = some (.cells #[.int .i64 0, .int .i64 0] 66 (0, 0))) :
    CallsD Tryz.prog 39 #[.pointer (some ⟨P0, 0, none⟩), .pointer (some ⟨P1, 0, none⟩)] (.panicking [{ v := .iface 66 (.agg #[.int .i64 c, .int .i64 at_]), recovered := false }]) w fun e u' w' =>
      e = .returned (.tuple #[]) ∧ u' = .panicking [{ v := .iface 66 (.agg #[.int .i64 c, .int .i64 at_]), recovered := true }] ∧ w' = (((six w P0 (.string ⟨#[]⟩) (.slice none 0 0) (.slice none 0 0) (.slice none 0 0) (.slice none 0 0) (.slice none 0 0)).setCell ⟨P1, 0, none⟩ (.int .i64 c)).setCell ⟨P1, 1, none⟩ (.int .i64 at_)).drew := by
  have hc0 : ∀ j v, (#[.string ⟨#[]⟩, .slice none 0 0, .slice none 0 0, .slice none 0 0, .slice none 0 0, .slice none 0 0] : Array Value)[j]? = some v → w.cell? ⟨P0, j, none⟩ = some v := fun j v hj => by
    simp only [World.cell?, h0]
    exact hj
  have hc1 : ∀ j v, (#[.int .i64 0, .int .i64 0] : Array Value)[j]? = some v → w.cell? ⟨P1, j, none⟩ = some v := fun j v hj => by
    simp only [World.cell?, h1]
    exact hj
  have a0 : w.cell? ⟨P0, 0, none⟩ = some (.string ⟨#[]⟩) := hc0 0 _ rfl
  have a1 : w.cell? ⟨P0, 1, none⟩ = some (.slice none 0 0) := hc0 1 _ rfl
  have a2 : w.cell? ⟨P0, 2, none⟩ = some (.slice none 0 0) := hc0 2 _ rfl
  have a3 : w.cell? ⟨P0, 3, none⟩ = some (.slice none 0 0) := hc0 3 _ rfl
  have a4 : w.cell? ⟨P0, 4, none⟩ = some (.slice none 0 0) := hc0 4 _ rfl
  have a5 : w.cell? ⟨P0, 5, none⟩ = some (.slice none 0 0) := hc0 5 _ rfl
  have b0 : w.cell? ⟨P1, 0, none⟩ = some (.int .i64 0) := hc1 0 _ rfl
  have b1 : w.cell? ⟨P1, 1, none⟩ = some (.int .i64 0) := hc1 1 _ rfl
  have fa : ∀ j, w.frozen? ⟨P0, j, none⟩ = false := fun j => by simp [World.frozen?, h0]
  have fb : ∀ j, w.frozen? ⟨P1, j, none⟩ = false := fun j => by simp [World.frozen?, h1]
  clear hc0 hc1
  refine callsD_of_wpS Tryz.func39 rfl fun c₀ cs hu => ?_
  apply wpS_seq
  apply wpS_region
  simp [wpOpsS, go_sem, recoverD, hu, Tryz.ntmps39, Exit.thenS]
  apply wpS_seq
  apply wpS_region
  simp [wpOpsS, go_sem, Exit.thenS]
  refine wpS_cond (t := true) (by simp [Act.eval, Array.replicate]) ?_
  simp only [if_true]
  refine wpS_of_wp ?_
  simp only [Array.replicate_succ, Array.replicate_zero, List.push_toArray, List.append_toArray, List.nil_append, List.cons_append, List.setIfInBounds_toArray, List.set_cons_zero, List.set_cons_succ]
  go_region
  cases c₀
  simp_all [bodyPostS, results, Tryz.results39, six]

theorem below_drew1 {B : Nat} {a w : World} (h : Below B a w) : Below B a w.drew := ⟨h.os, h.tape, h.output, h.size, h.block⟩
theorem drew_at (w : World) (k : Nat) : w.drew.heap[k]? = w.heap[k]? := rfl
/-- What the fault's being caught leaves: both boxes, all else as it was. -/
theorem caught {w : World} {p q B : Nat} {w0 : World} (c at_ : Int) (hpq : p ≠ q) (hb : Below B w0 w) (hp : B ≤ p) (hq : B ≤ q) (h0 : w.heap[p]? = some (.cells #[.string ⟨#[]⟩, .slice none 0 0, .slice none 0 0, .slice none 0 0, .slice none 0 0, .slice none 0 0] 28 (0, 0))) (h1 : w.heap[q]? = some (.cells #[.int .i64 0, .int .i64 0] 66 (0, 0))) {w2 : World}
    (e : w2 = (((six w p (.string ⟨#[]⟩) (.slice none 0 0) (.slice none 0 0) (.slice none 0 0) (.slice none 0 0) (.slice none 0 0)).setCell ⟨q, 0, none⟩ (.int .i64 c)).setCell ⟨q, 1, none⟩ (.int .i64 at_)).drew) :
    Below B w0 w2 ∧ w2.heap[p]? = some (.cells #[.string ⟨#[]⟩, .slice none 0 0, .slice none 0 0, .slice none 0 0, .slice none 0 0, .slice none 0 0] 28 (0, 0)) ∧ w2.heap[q]? = some (.cells #[.int .i64 c, .int .i64 at_] 66 (0, 0)) := by
  subst e
  obtain ⟨V, hV⟩ : ∃ V, V = six w p (.string ⟨#[]⟩) (.slice none 0 0) (.slice none 0 0) (.slice none 0 0) (.slice none 0 0) (.slice none 0 0) := ⟨_, rfl⟩
  have e1 : Below B w0 V := by rw [hV]; exact six_below hb hp _ _ _ _ _ _
  have e2 : V.heap[p]? = some (.cells #[.string ⟨#[]⟩, .slice none 0 0, .slice none 0 0, .slice none 0 0, .slice none 0 0, .slice none 0 0] 28 (0, 0)) := by rw [hV]; exact six_box h0 _ _ _ _ _ _
  have e3 : V.heap[q]? = some (.cells #[.int .i64 0, .int .i64 0] 66 (0, 0)) := by rw [hV]; exact (six_other _ _ _ _ _ _ _ _ q (Ne.symm hpq)).trans h1
  rw [← hV]
  clear hV
  refine ⟨below_drew1 ((e1.setCell (p := ⟨q, 0, none⟩) hq _).setCell (p := ⟨q, 1, none⟩) hq _), ?_, ?_⟩
  · rw [drew_at, Below.heap_setCell _ _ _ p hpq, Below.heap_setCell _ _ _ p hpq, e2]
  · rw [drew_at]
    exact set_any (set_any e3 0 (.int .i64 c)) 1 (.int .i64 at_)
theorem set_own31 {W : World} {B q e sz n j : Nat} {v : Value} {xs : List Value} {cur : Array Value} (h : W.ownsRow B e sz v n xs) (hq : W.heap[q]? = some (.cells cur 66 (0, 0))) (he : e ≠ 66) (u : Value) : (W.setCell ⟨q, j, none⟩ u).ownsRow B e sz v n xs :=
  own_block h hq he fun k _ hk => Below.heap_setCell W _ _ k hk
theorem told {w w0 w2 : World} {p q B B' : Nat} {b l g d t u0 u1 u2 u3 u4 u5 : Value} {N : NetM} (hpq : p ≠ q) (hb : Below B w0 w) (hp : B ≤ p) (hq : B ≤ q) (h0 : w.heap[p]? = some (.cells #[u0, u1, u2, u3, u4, u5] 28 (0, 0))) (h1 : w.heap[q]? = some (.cells #[.int .i64 0, .int .i64 0] 66 (0, 0)))
    (o : Owns w B' b l g d t N) (hB : B ≤ B') (e : w2 = ((six w p (.string N.name) b l g d t).setCell ⟨q, 0, none⟩ (.int .i64 0)).setCell ⟨q, 1, none⟩ (.int .i64 0)) :
    Below B w0 w2 ∧ w2.heap[p]? = some (.cells #[.string N.name, b, l, g, d, t] 28 (0, 0)) ∧ w2.heap[q]? = some (.cells #[.int .i64 0, .int .i64 0] 66 (0, 0)) ∧ Owns w2 B b l g d t N := by
  subst e
  obtain ⟨V, hV⟩ : ∃ V, V = six w p (.string N.name) b l g d t := ⟨_, rfl⟩
  have e1 : Below B w0 V := by rw [hV]; exact six_below hb hp _ _ _ _ _ _
  have e2 : V.heap[p]? = some (.cells #[.string N.name, b, l, g, d, t] 28 (0, 0)) := by rw [hV]; exact six_box h0 _ _ _ _ _ _
  have e3 : V.heap[q]? = some (.cells #[.int .i64 0, .int .i64 0] 66 (0, 0)) := by rw [hV]; exact (six_other _ _ _ _ _ _ _ _ q (Ne.symm hpq)).trans h1
  have e4 : Owns V B b l g d t N := by
    rw [hV]
    exact ⟨own_base (six_own o.hb h0 (by decide) _ _ _ _ _ _) hB, own_base (six_own o.hl h0 (by decide) _ _ _ _ _ _) hB, own_base (six_own o.hg h0 (by decide) _ _ _ _ _ _) hB, own_base (six_own o.hd h0 (by decide) _ _ _ _ _ _) hB, own_base (six_own o.ht h0 (by decide) _ _ _ _ _ _) hB⟩
  rw [← hV]
  clear hV
  have e5 := set_any e3 0 (.int .i64 0)
  refine ⟨(e1.setCell (p := ⟨q, 0, none⟩) hq _).setCell (p := ⟨q, 1, none⟩) hq _, ?_, set_any e5 1 (.int .i64 0), ?_⟩
  · rw [Below.heap_setCell _ _ _ p hpq, Below.heap_setCell _ _ _ p hpq, e2]
  · exact ⟨set_own31 (set_own31 e4.hb e3 (by decide) _) e5 (by decide) _, set_own31 (set_own31 e4.hl e3 (by decide) _) e5 (by decide) _, set_own31 (set_own31 e4.hg e3 (by decide) _) e5 (by decide) _, set_own31 (set_own31 e4.hd e3 (by decide) _) e5 (by decide) _, set_own31 (set_own31 e4.ht e3 (by decide) _) e5 (by decide) _⟩
/-- The world when the two results' boxes are laid. -/
def faceW (w : World) : World := (w.alloc (.cells #[.string ⟨#[]⟩, .slice none 0 0, .slice none 0 0, .slice none 0 0, .slice none 0 0, .slice none 0 0] 28)).alloc (.cells #[.int .i64 0, .int .i64 0] 66)
theorem face_size (w : World) : (faceW w).heap.size = w.heap.size + 2 := by simp [faceW]
theorem face_below (w : World) : Below w.heap.size w (faceW w) := ((Below.refl _ w).alloc (Nat.le_refl _) _).alloc (by simp) _
theorem face_net (w : World) : (faceW w).heap[w.heap.size]? = some (.cells #[.string ⟨#[]⟩, .slice none 0 0, .slice none 0 0, .slice none 0 0, .slice none 0 0, .slice none 0 0] 28 (0, 0)) :=
  (Below.heap_alloc _ _ _ (by simp)).trans (World.alloc_heap_new w _)
theorem face_fault (w : World) : (faceW w).heap[w.heap.size + 1]? = some (.cells #[.int .i64 0, .int .i64 0] 66 (0, 0)) := by
  have := World.alloc_heap_new (w.alloc (.cells #[.string ⟨#[]⟩, .slice none 0 0, .slice none 0 0, .slice none 0 0, .slice none 0 0, .slice none 0 0] 28)) (.cells #[.int .i64 0, .int .i64 0] 66)
  rwa [World.size_alloc] at this
theorem cells28 {w : World} {p : Nat} {v0 v1 v2 v3 v4 v5 : Value} (h : w.heap[p]? = some (.cells #[v0, v1, v2, v3, v4, v5] 28 (0, 0))) : w.cell? ⟨p, 0, none⟩ = some v0 ∧ w.cell? ⟨p, 1, none⟩ = some v1 ∧ w.cell? ⟨p, 2, none⟩ = some v2 ∧ w.cell? ⟨p, 3, none⟩ = some v3 ∧ w.cell? ⟨p, 4, none⟩ = some v4 ∧ w.cell? ⟨p, 5, none⟩ = some v5 ∧ ∀ j, w.frozen? ⟨p, j, none⟩ = false := by
  refine ⟨?_, ?_, ?_, ?_, ?_, ?_, fun j => by simp [World.frozen?, h]⟩ <;> (simp only [World.cell?, h]; rfl)
theorem cells31 {w : World} {p : Nat} {v0 v1 : Value} (h : w.heap[p]? = some (.cells #[v0, v1] 66 (0, 0))) : w.cell? ⟨p, 0, none⟩ = some v0 ∧ w.cell? ⟨p, 1, none⟩ = some v1 ∧ ∀ j, w.frozen? ⟨p, j, none⟩ = false := by
  refine ⟨?_, ?_, fun j => by simp [World.frozen?, h]⟩ <;> (simp only [World.cell?, h]; rfl)
theorem mkf (fn : Fn) (first cap : Array Value) (w : World) : (Instr.makeFunc fn first cap).run Tryz.prog w = .ok (.func fn first cap) w := rfl

set_option maxHeartbeats 2000000 in
set_option maxRecDepth 100000 in
theorem Read_bad (s : ByteArray) (c at_ : Int) (w : World) (hread : Calls Tryz.prog 40 #[.string s] (faceW w) fun e w' => e = gaveUp c at_ ∧ Below (faceW w).heap.size (faceW w) w') :
    Calls Tryz.prog 31 #[.string s] w fun e w' => e = .returned (.tuple #[.agg #[.string ⟨#[]⟩, .slice none 0 0, .slice none 0 0, .slice none 0 0, .slice none 0 0, .slice none 0 0], .agg #[.int .i64 c, .int .i64 at_]]) ∧ Below w.heap.size w w' := by
  have hmf := mkf
  have hw := hread
  obtain ⟨W, hW⟩ : ∃ W, W = faceW w := ⟨_, rfl⟩
  have h0 := face_net w
  have h1 := face_fault w
  have hb := face_below w
  have hz := face_size w
  rw [← hW] at hw h0 h1 hb hz
  unfold faceW at hW
  have HW := hide' hw
  have H0 := hide' h0
  have H1 := hide' h1
  have HB := hide' hb
  clear hread hw h0 h1 hb
  go_enter_defers Tryz.func31, Tryz.ntmps31
  go_wp2_with (go_at_call 40; rw [← hW]; refine HW.out.mono ?_; rintro e w1 ⟨rfl, hb1⟩)
  have h0 : w1.heap[w.heap.size]? = _ := (hb1.block w.heap.size (by omega)).trans H0.out
  have h1 : w1.heap[w.heap.size + 1]? = _ := (hb1.block (w.heap.size + 1) (by omega)).trans H1.out
  have hbw : Below w.heap.size w w1 := HB.out.trans (hb1.mono (by omega))
  refine leaves_cons (f := 39) (args := #[.pointer (some ⟨w.heap.size, 0, none⟩), .pointer (some ⟨w.heap.size + 1, 0, none⟩)]) (by simp) (by simp [go_sem]) ?_
  refine (catch_panicking w.heap.size (w.heap.size + 1) c at_ w1 (by omega) h0 h1).mono ?_
  rintro e u' w2 ⟨rfl, rfl, hw2⟩
  obtain ⟨hbel, k0, k1⟩ := caught c at_ (by omega) hbw (Nat.le_refl _) (by omega) h0 h1 hw2
  clear hw2
  obtain ⟨q0, q1, q2, q3, q4, q5, _⟩ := cells28 k0
  obtain ⟨p0, p1, _⟩ := cells31 k1
  refine ⟨.tuple #[.agg #[.string ⟨#[]⟩, .slice none 0 0, .slice none 0 0, .slice none 0 0, .slice none 0 0, .slice none 0 0], .agg #[.int .i64 c, .int .i64 at_]], ?_, rfl, hbel⟩
  simp [results, Tryz.results31, go_sem, q0, q1, q2, q3, q4, q5, p0, p1]

set_option maxHeartbeats 2000000 in
set_option maxRecDepth 100000 in
theorem Read_good (s : ByteArray) (N : NetM) (w : World) (hread : Calls Tryz.prog 40 #[.string s] (faceW w) fun e w' => ∃ b l g d t, e = .returned (.agg #[.string N.name, b, l, g, d, t]) ∧ Owns w' (faceW w).heap.size b l g d t N ∧ Below (faceW w).heap.size (faceW w) w') :
    Calls Tryz.prog 31 #[.string s] w fun e w' => ∃ b l g d t, e = .returned (.tuple #[.agg #[.string N.name, b, l, g, d, t], .agg #[.int .i64 0, .int .i64 0]]) ∧ Owns w' w.heap.size b l g d t N ∧ Below w.heap.size w w' := by
  have hmf := mkf
  have hw := hread
  obtain ⟨W, hW⟩ : ∃ W, W = faceW w := ⟨_, rfl⟩
  have h0 := face_net w
  have h1 := face_fault w
  have hb := face_below w
  have hz := face_size w
  rw [← hW] at hw h0 h1 hb hz
  unfold faceW at hW
  have HW := hide' hw
  have H0 := hide' h0
  have H1 := hide' h1
  have HB := hide' hb
  clear hread hw h0 h1 hb
  go_enter_defers Tryz.func31, Tryz.ntmps31
  go_wp2_with (go_at_call 40; rw [← hW]; refine HW.out.mono ?_; rintro e w1 ⟨b, l, g, d, t, rfl, ho, hb1⟩; obtain ⟨ab, cb, rfl⟩ := own_slice ho.hb; obtain ⟨al, cl, rfl⟩ := own_slice ho.hl; obtain ⟨ag, cg, rfl⟩ := own_slice ho.hg; obtain ⟨ad, cd, rfl⟩ := own_slice ho.hd; obtain ⟨at', ct, rfl⟩ := own_slice ho.ht; have h0 := (hb1.block w.heap.size (by omega)).trans H0.out; have h1 := (hb1.block (w.heap.size + 1) (by omega)).trans H1.out; obtain ⟨a0, a1, a2, a3, a4, a5, fa⟩ := cells28 h0; obtain ⟨b0, b1, fb⟩ := cells31 h1; have HO := hide' ho; have HP := hide' hb1; have G0 := hide' h0; have G1 := hide' h1; clear ho hb1 h0 h1)
  obtain ⟨w2, hw2⟩ : ∃ w2, w2 = ((six w1 w.heap.size (.string N.name) (.slice ab N.buses.length cb) (.slice al N.lines.length cl) (.slice ag N.gens.length cg) (.slice ad N.loads.length cd) (.slice at' N.ties.length ct)).setCell ⟨w.heap.size + 1, 0, none⟩ (.int .i64 0)).setCell ⟨w.heap.size + 1, 1, none⟩ (.int .i64 0) := ⟨_, rfl⟩
  obtain ⟨hbel, k0, k1, ho⟩ := told (by omega) (HB.out.trans (HP.out.mono (by omega))) (Nat.le_refl _) (by omega) G0.out G1.out HO.out (by omega) hw2
  unfold six at hw2
  rw [← hw2]
  clear hw2
  obtain ⟨q0, q1, q2, q3, q4, q5, _⟩ := cells28 k0
  obtain ⟨p0, p1, _⟩ := cells31 k1
  refine leaves_cons (f := 39) (args := #[.pointer (some ⟨w.heap.size, 0, none⟩), .pointer (some ⟨w.heap.size + 1, 0, none⟩)]) (by simp) (by simp [go_sem]) ?_
  refine (catch_idle ⟨w.heap.size, 0, none⟩ ⟨w.heap.size + 1, 0, none⟩ w2).mono ?_
  rintro e u' w3 ⟨rfl, rfl, rfl⟩
  refine ⟨.tuple #[.agg #[.string N.name, .slice ab N.buses.length cb, .slice al N.lines.length cl, .slice ag N.gens.length cg, .slice ad N.loads.length cd, .slice at' N.ties.length ct], .agg #[.int .i64 0, .int .i64 0]], ?_, _, _, _, _, _, rfl, ho, hbel⟩
  simp [results, Tryz.results31, go_sem, q0, q1, q2, q3, q4, q5, p0, p1]
end Go.Proofs.YtpbalclhdhjnoaaGreatDoor
