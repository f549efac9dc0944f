/- The program's search. -/
import Derived.Test.YtcnoipcpifackahXn
import Derived.Test.YtcnoipcpifackahXr
namespace Go.Proofs.Ytcnoipcpifackah
open Go.RowKit Go.Shelf

/-- What the search answers. -/
def PlanO (y : YardM) (goal : List Bool) (w : World) (e : Ending) (w' : World) : Prop :=
  ((∃ q v, BestP (leadF y) y.code (codeB goal) q ∧ e = .returned (.tuple #[v, .int .i64 0]) ∧ w'.ownsRow w.heap.size 3 1 v q.length (ints (natI q))) ∨ ((∀ q, runK (leadF y) y.code q ≠ some (codeB goal)) ∧ e = .returned (.tuple #[.slice none 0 0, .int .i64 9]))) ∧ Below w.heap.size w w'
theorem act_eq {a : Act} {t : Array Value} (h1 : a.tmps = t) (h2 : a.defers = []) : a = ⟨t, []⟩ := by
  obtain ⟨x, y⟩ := a
  simp only at h1 h2
  rw [h1, h2]
set_option maxRecDepth 100000 in
set_option maxHeartbeats 4000000 in
theorem plan_any (y : YardM) (hm : MayY y) (hs : soundB y = true) (p : Places) (goal : List Bool) (gv : Value) (w : World) (hw : WorkB w w y p) (hg : RowAt w gv goal.length 1 (goal.map Value.bool)) (hl : goal.length = y.devs.length) : Calls Try.prog 25 #[workV y p, gv] w (PlanO y goal w) := by
  have hd10 := hm.d
  obtain ⟨i74, hi74, h740, h741, h742⟩ := info_parts info74W
  have HW := hide' hw
  have HM := hide' hm
  have HSO := hide' hs
  obtain ⟨ga, gc, rfl⟩ := rowAt_slice hg
  have HWN := hide' (hw.now (Below.refl _ w)).yard.s
  have HBI := hide' (fun z (hb : Below w.heap.size w z) => bits_any goal _ z (hg.below hb (Nat.le_refl _)) (by omega))
  have HBD := hide' (fun z (hb : Below w.heap.size w z) => bitsDev_any y.devs _ z (HWN.out.below hb (Nat.le_refl _)) (by omega))
  have HL := hide' hl
  clear hw hm hs hg
  rw [hl] at HBI ⊢
  clear hl
  obtain ⟨en, HEN⟩ : ∃ x, Hid (x = codeB goal) := ⟨_, rfl⟩
  obtain ⟨s0, HS0⟩ : ∃ x, Hid (x = codeB (shuts y.devs)) := ⟨_, rfl⟩
  rw [← HEN.out] at HBI
  rw [← HS0.out] at HBD
  have hs0 : s0 < 1024 := by
    have h1 := code_bd y
    have h2 : 2 ^ y.devs.length ≤ 1024 := Nat.le_trans (Nat.pow_le_pow_right (by decide) hd10) (by decide)
    have h3 : s0 = y.code := HS0.out
    omega
  have HZ := hide' zero76
  obtain ⟨kz, HKZ⟩ : ∃ k : Array Value, Hid (k = Array.replicate 1024 (.bool false)) := ⟨_, rfl⟩
  rw [← HKZ.out] at HZ
  unfold workV
  go_enter Try.func25, Try.ntmps25
  refine wp_seq_k fun K0 hK0 => ?_
  have HK0 := hide' hK0
  clear hK0
  go_wp2_with fail
  refine HK0.out _ _ ?_
  clear HK0 K0
  have hqY := alloc_new w (.cells #[.int .i64 y.points, .slice p.af y.fed.length p.cf, .slice p.ad y.drawn.length p.cd, .slice p.as' y.devs.length p.cs, .slice (some ⟨p.G, 0, none⟩) y.n p.cg, .slice (some ⟨p.L, 0, none⟩) y.n y.n, .slice (some ⟨p.E, 0, none⟩) y.n y.n, .slice (some ⟨p.D, 0, none⟩) y.n y.n] 50)
  have hb1 := below_al w (.cells #[.int .i64 y.points, .slice p.af y.fed.length p.cf, .slice p.ad y.drawn.length p.cd, .slice p.as' y.devs.length p.cs, .slice (some ⟨p.G, 0, none⟩) y.n p.cg, .slice (some ⟨p.L, 0, none⟩) y.n y.n, .slice (some ⟨p.E, 0, none⟩) y.n y.n, .slice (some ⟨p.D, 0, none⟩) y.n y.n] 50)
  obtain ⟨w1, hw1⟩ : ∃ x, x = (w.alloc (.cells #[.int .i64 y.points, .slice p.af y.fed.length p.cf, .slice p.ad y.drawn.length p.cd, .slice p.as' y.devs.length p.cs, .slice (some ⟨p.G, 0, none⟩) y.n p.cg, .slice (some ⟨p.L, 0, none⟩) y.n y.n, .slice (some ⟨p.E, 0, none⟩) y.n y.n, .slice (some ⟨p.D, 0, none⟩) y.n y.n] 50)) := ⟨_, rfl⟩
  rw [← hw1] at hqY hb1 ⊢
  obtain ⟨Y, hnY⟩ : ∃ x, x = w.heap.size := ⟨_, rfl⟩
  have HNE : Hid (w.heap.size ≤ Y) := by show _ ≤ _; omega
  rw [← hnY] at hqY
  rw [show (Value.pointer (some { block := w.heap.size, off := 0 })) = Value.pointer (some { block := Y, off := 0 }) by rw [hnY]]
  have HQY := hide' hqY
  have HB1 := hide' hb1
  clear hqY hb1 hw1 hnY
  refine wp_seq_k fun K1 hK1 => ?_
  have HK1 := hide' hK1
  clear hK1
  go_wp2_with fail
  refine (HBI.out w1 HB1.out).mono ?_
  rintro e zz ⟨rfl, hzz⟩
  rw [hzz]
  clear hzz zz HBI
  go_wp2_with fail
  refine HK1.out _ _ ?_
  clear HK1 K1
  refine wp_seq_k fun K2 hK2 => ?_
  have HK2 := hide' hK2
  clear hK2
  refine wp_mono (planR2 HQY.out HB1.out HBD.out) ?_
  rintro e a w2 ⟨rfl, T, ⟨g18, g19, g20, g21, g22, g23, ht⟩, hdf, hT, hY2, hb2, hTB⟩
  obtain rfl := act_eq ht hdf
  have HT := hide' hT
  have HB2 := hide' hb2
  have HY2 := hide' hY2
  clear ht hdf hT hY2 hb2 HQY HB1 HNE HBD
  dsimp only
  refine HK2.out _ _ ?_
  clear HK2 K2
  have t0 : w2.cell? ⟨T, 0, none⟩ = some (.int .i64 y.points) := (cells_at HT.out 0).trans rfl
  have t1 : w2.cell? ⟨T, 1, none⟩ = some (.slice p.af y.fed.length p.cf) := (cells_at HT.out 1).trans rfl
  have t2 : w2.cell? ⟨T, 2, none⟩ = some (.slice p.ad y.drawn.length p.cd) := (cells_at HT.out 2).trans rfl
  have t3 : w2.cell? ⟨T, 3, none⟩ = some (.slice p.as' y.devs.length p.cs) := (cells_at HT.out 3).trans rfl
  have t4 : w2.cell? ⟨T, 4, none⟩ = some (.slice (some ⟨p.G, 0, none⟩) y.n p.cg) := (cells_at HT.out 4).trans rfl
  have t5 : w2.cell? ⟨T, 5, none⟩ = some (.slice (some ⟨p.L, 0, none⟩) y.n y.n) := (cells_at HT.out 5).trans rfl
  have t6 : w2.cell? ⟨T, 6, none⟩ = some (.slice (some ⟨p.E, 0, none⟩) y.n y.n) := (cells_at HT.out 6).trans rfl
  have t7 : w2.cell? ⟨T, 7, none⟩ = some (.slice (some ⟨p.D, 0, none⟩) y.n y.n) := (cells_at HT.out 7).trans rfl
  have t8 : w2.cell? ⟨T, 8, none⟩ = some (.int .i64 (s0 : Int)) := (cells_at HT.out 8).trans rfl
  have t9 : w2.cell? ⟨T, 9, none⟩ = some (.int .i64 0) := (cells_at HT.out 9).trans rfl
  have t10 : w2.cell? ⟨T, 10, none⟩ = some (.int .i64 0) := (cells_at HT.out 10).trans rfl
  go_upto_region 4 with fail
  clear t0 t1 t2 t3 t4 t5 t6 t7 t8 t9 t10
  obtain ⟨R0, hR0⟩ : ∃ x, x = w2.heap.size := ⟨_, rfl⟩
  have hb3 := below_al w2 (.cells #[.int .i64 y.points, .slice p.af y.fed.length p.cf, .slice p.ad y.drawn.length p.cd, .slice p.as' y.devs.length p.cs, .slice (some ⟨p.G, 0, none⟩) y.n p.cg, .slice (some ⟨p.L, 0, none⟩) y.n y.n, .slice (some ⟨p.E, 0, none⟩) y.n y.n, .slice (some ⟨p.D, 0, none⟩) y.n y.n, .int .i64 (s0 : Int), .int .i64 0, .int .i64 0] 74)
  have hnw := alloc_new w2 (.cells #[.int .i64 y.points, .slice p.af y.fed.length p.cf, .slice p.ad y.drawn.length p.cd, .slice p.as' y.devs.length p.cs, .slice (some ⟨p.G, 0, none⟩) y.n p.cg, .slice (some ⟨p.L, 0, none⟩) y.n y.n, .slice (some ⟨p.E, 0, none⟩) y.n y.n, .slice (some ⟨p.D, 0, none⟩) y.n y.n, .int .i64 (s0 : Int), .int .i64 0, .int .i64 0] 74)
  obtain ⟨w3, hw3⟩ : ∃ x, x = w2.alloc (.cells #[.int .i64 y.points, .slice p.af y.fed.length p.cf, .slice p.ad y.drawn.length p.cd, .slice p.as' y.devs.length p.cs, .slice (some ⟨p.G, 0, none⟩) y.n p.cg, .slice (some ⟨p.L, 0, none⟩) y.n y.n, .slice (some ⟨p.E, 0, none⟩) y.n y.n, .slice (some ⟨p.D, 0, none⟩) y.n y.n, .int .i64 (s0 : Int), .int .i64 0, .int .i64 0] 74) := ⟨_, rfl⟩
  rw [← hw3] at hb3 hnw ⊢
  rw [← hR0] at hnw ⊢
  have HAT : Hid (y.at s0 = y) := by show _ = _; rw [HS0.out]; exact at_self y
  have HR3 : Hid (w3.ownsRow w.heap.size 74 11 (.slice (some ⟨R0, 0, none⟩) 1 1) 1 ([(⟨s0, 0, 0, p⟩ : PlaceM)].flatMap (PlaceM.cells y)) ∧ Below w.heap.size w w3 ∧ w3.heap[T]? = some (.cells #[.int .i64 y.points, .slice p.af y.fed.length p.cf, .slice p.ad y.drawn.length p.cd, .slice p.as' y.devs.length p.cs, .slice (some ⟨p.G, 0, none⟩) y.n p.cg, .slice (some ⟨p.L, 0, none⟩) y.n y.n, .slice (some ⟨p.E, 0, none⟩) y.n y.n, .slice (some ⟨p.D, 0, none⟩) y.n y.n, .int .i64 (s0 : Int), .int .i64 0, .int .i64 0] 74 (0, 0))) := by
    refine ⟨?_, HB2.out.trans (hb3.mono HB2.out.size), (hb3.block T (lt_heap HT.out)).trans HT.out⟩
    rw [List.flatMap_singleton]
    unfold PlaceM.cells
    simp only
    rw [HAT.out]
    exact ⟨rfl, .inr ⟨_, _, _, rfl, by rw [hR0]; exact HB2.out.size, hnw, Nat.le_refl _, by unfold maxLen; omega, rfl, rfl⟩⟩
  have HY3 := hide' ((hb3.block Y (lt_heap HY2.out)).trans HY2.out)
  clear hb3 hnw hw3 hR0 HT HB2 HY2
  go_wp2_with fail
  rw [HZ.out]
  go_upto_region 5 with fail
  obtain ⟨K, hKK⟩ : ∃ x, x = w3.heap.size := ⟨_, rfl⟩
  have hb4 := below_al w3 (.cells kz 76)
  have hnk := alloc_new w3 (.cells kz 76)
  obtain ⟨w4, hw4⟩ : ∃ x, x = w3.alloc (.cells kz 76) := ⟨_, rfl⟩
  rw [← hw4] at hb4 hnk ⊢
  rw [← hKK] at hnk ⊢
  rw [HKZ.out] at hnk
  have HKN := hide' (KnownAt.start hnk)
  have HR4 : Hid (w4.ownsRow w.heap.size 74 11 (.slice (some ⟨R0, 0, none⟩) 1 1) 1 ([(⟨s0, 0, 0, p⟩ : PlaceM)].flatMap (PlaceM.cells y)) ∧ Below w.heap.size w w4 ∧ w4.heap[T]? = some (.cells #[.int .i64 y.points, .slice p.af y.fed.length p.cf, .slice p.ad y.drawn.length p.cd, .slice p.as' y.devs.length p.cs, .slice (some ⟨p.G, 0, none⟩) y.n p.cg, .slice (some ⟨p.L, 0, none⟩) y.n y.n, .slice (some ⟨p.E, 0, none⟩) y.n y.n, .slice (some ⟨p.D, 0, none⟩) y.n y.n, .int .i64 (s0 : Int), .int .i64 0, .int .i64 0] 74 (0, 0)) ∧ w.heap.size ≤ K ∧ w4.heap[K]? = some (.cells (Array.replicate 1024 (.bool false)) 76 (0, 0))) := ⟨own_below HR3.out.1 hb4 (Nat.le_refl _), HR3.out.2.1.trans (hb4.mono HR3.out.2.1.size), (hb4.block T (lt_heap HR3.out.2.2)).trans HR3.out.2.2, by rw [hKK]; exact HR3.out.2.1.size, hnk⟩
  have HY4 := hide' ((hb4.block Y (lt_heap HY3.out)).trans HY3.out)
  clear hb4 hnk hw4 hKK HR3 HZ HY3
  obtain ⟨k1, f1⟩ := HKN.out.cell hs0
  have t8 : w4.cell? ⟨T, 8, none⟩ = some (.int .i64 (s0 : Int)) := (cells_at HR4.out.2.2.1 8).trans rfl
  have HPI : Hid (PlanI w y K (.slice (some ⟨R0, 0, none⟩) 1 1) [(s0, [])] [⟨s0, 0, 0, p⟩] (w4.setCell ⟨K, s0, none⟩ (.bool true))) := by
    have hk := keep_set HR4.out.2.2.2.2 s0 (.bool true)
    have hbw : Below w.heap.size w (w4.setCell ⟨K, s0, none⟩ (.bool true)) := HR4.out.2.1.setCell (p := ⟨K, s0, none⟩) HR4.out.2.2.2.1 _
    refine ⟨rfl, fun j a x ha hx => ?_, own_keep HR4.out.1 hk (by decide), fun a ha => ?_, ⟨_, HKN.out.set hs0, fun c hc => ?_⟩, HR4.out.2.2.2.1, hbw⟩
    · match j, ha, hx with
      | 0, ha, hx =>
        cases ha
        cases hx
        refine ⟨rfl, ?_, by rw [HAT.out]; exact HSO.out, fun h => absurd h (Nat.lt_irrefl _)⟩
        show s0 < _
        rw [HS0.out]
        exact code_bd y
      | j + 1, ha, _ => simp at ha
    · rw [List.mem_singleton.1 ha]
      show WorkB w _ (y.at s0) p
      rw [HAT.out]
      exact HW.out.keep (KeepX.below hbw (Nat.le_refl _))
    · by_cases e : c = s0
      · rw [if_pos e, e]
        exact ⟨fun _ => ⟨0, [], rfl⟩, fun _ => rfl⟩
      · rw [if_neg e]
        refine ⟨fun h => (by cases h), ?_⟩
        rintro ⟨j, q, hj⟩
        match j, hj with
        | 0, hj => cases hj; exact absurd rfl e
        | j + 1, hj => simp at hj
  have HYK : Hid (Y ≠ K) := by
    intro e
    have h1 := HY4.out
    rw [e, HR4.out.2.2.2.2] at h1
    cases h1
  have HY5 : Hid ((w4.setCell ⟨K, s0, none⟩ (.bool true)).heap[Y]? = some (.cells #[.int .i64 y.points, .slice p.af y.fed.length p.cf, .slice p.ad y.drawn.length p.cd, .slice p.as' y.devs.length p.cs, .slice (some ⟨p.G, 0, none⟩) y.n p.cg, .slice (some ⟨p.L, 0, none⟩) y.n y.n, .slice (some ⟨p.E, 0, none⟩) y.n y.n, .slice (some ⟨p.D, 0, none⟩) y.n y.n] 50 (0, 0))) := ((But.set (But.refl K w4) _ _).block Y (lt_heap HY4.out) HYK.out).trans HY4.out
  clear HR4 HKN HKZ HY4
  go_upto_region 6 with fail
  clear k1 f1 t8
  obtain ⟨w5, hw5⟩ : ∃ x, x = w4.setCell ⟨K, s0, none⟩ (.bool true) := ⟨_, rfl⟩
  rw [← hw5] at HPI HY5 ⊢
  clear hw5
  have HBF := hide' (Bfs.start (leadF y) s0)
  go_wp2_with fail
  go_loopw [8, 10] (fun rv av wr => ∃ (a : Nat) (R : List (Nat × List Nat)) (M : List PlaceM), av = .int .i64 a ∧ a ≤ M.length ∧ M.length ≤ 1024 ∧ Hid (Bfs (leadF y) s0 R a 0 ∧ ∀ (i : Nat) (q : List Nat), i < a → R[i]? ≠ some (en, q)) ∧ Hid (PlanI w y K rv R M wr ∧ wr.heap[Y]? = some (.cells #[.int .i64 y.points, .slice p.af y.fed.length p.cf, .slice p.ad y.drawn.length p.cd, .slice p.as' y.devs.length p.cs, .slice (some ⟨p.G, 0, none⟩) y.n p.cg, .slice (some ⟨p.L, 0, none⟩) y.n y.n, .slice (some ⟨p.E, 0, none⟩) y.n y.n, .slice (some ⟨p.D, 0, none⟩) y.n y.n] 50 (0, 0)))) (fun _ av _ => 1024 - (intOf av).toNat)
  case atStart => exact ⟨0, _, _, rfl, Nat.zero_le _, by show 1 ≤ 1024; decide, ⟨HBF.out, fun i q h => absurd h (Nat.not_lt_zero _)⟩, HPI.out, HY5.out⟩
  case round =>
    obtain ⟨a, R, M, rfl, haM, hM, HB, HI⟩ := hrel
    have hlen : 0 < M.length := by
      have h1 := (List.getElem?_eq_some_iff.1 HB.out.1.first).1
      rw [HI.out.1.len]
      exact h1
    obtain ⟨g, c, rfl⟩ := HI.out.1.at_ hlen
    by_cases hax : a < M.length
    · obtain ⟨m, hma⟩ : ∃ m, M[a]? = some m := ⟨_, List.getElem?_eq_getElem hax⟩
      obtain ⟨z, hz⟩ : ∃ z, z = y.at m.c := ⟨_, rfl⟩
      have x0 : wr.cell? ⟨g, a * 11, none⟩ = some (.int .i64 z.points) := HI.out.1.cell (i := 0) hma (by decide) (by subst hz; rfl)
      have x1 : wr.cell? ⟨g, a * 11 + 1, none⟩ = some (.slice m.p.af z.fed.length m.p.cf) := HI.out.1.cell (i := 1) hma (by decide) (by subst hz; rfl)
      have x2 : wr.cell? ⟨g, a * 11 + 2, none⟩ = some (.slice m.p.ad z.drawn.length m.p.cd) := HI.out.1.cell (i := 2) hma (by decide) (by subst hz; rfl)
      have x3 : wr.cell? ⟨g, a * 11 + 3, none⟩ = some (.slice m.p.as' z.devs.length m.p.cs) := HI.out.1.cell (i := 3) hma (by decide) (by subst hz; rfl)
      have x4 : wr.cell? ⟨g, a * 11 + 4, none⟩ = some (.slice (some ⟨m.p.G, 0, none⟩) z.n m.p.cg) := HI.out.1.cell (i := 4) hma (by decide) (by subst hz; rfl)
      have x5 : wr.cell? ⟨g, a * 11 + 5, none⟩ = some (.slice (some ⟨m.p.L, 0, none⟩) z.n z.n) := HI.out.1.cell (i := 5) hma (by decide) (by subst hz; rfl)
      have x6 : wr.cell? ⟨g, a * 11 + 6, none⟩ = some (.slice (some ⟨m.p.E, 0, none⟩) z.n z.n) := HI.out.1.cell (i := 6) hma (by decide) (by subst hz; rfl)
      have x7 : wr.cell? ⟨g, a * 11 + 7, none⟩ = some (.slice (some ⟨m.p.D, 0, none⟩) z.n z.n) := HI.out.1.cell (i := 7) hma (by decide) (by subst hz; rfl)
      have x8 : wr.cell? ⟨g, a * 11 + 8, none⟩ = some (.int .i64 (m.c : Int)) := HI.out.1.cell (i := 8) hma (by decide) (by subst hz; rfl)
      have x9 : wr.cell? ⟨g, a * 11 + 9, none⟩ = some (.int .i64 (m.b : Int)) := HI.out.1.cell (i := 9) hma (by decide) (by subst hz; rfl)
      have x10 : wr.cell? ⟨g, a * 11 + 10, none⟩ = some (.int .i64 (m.f : Int)) := HI.out.1.cell (i := 10) hma (by decide) (by subst hz; rfl)
      have HMA := hide' hma
      have HZZ := hide' hz
      clear hma hz
      go_upto_region 10 with fail
      clear x0 x1 x2 x3 x4 x5 x6 x7 x8 x9 x10
      obtain ⟨A, hA⟩ : ∃ x, x = wr.heap.size := ⟨_, rfl⟩
      have hb6 := below_al wr (.cells #[.int .i64 z.points, .slice m.p.af z.fed.length m.p.cf, .slice m.p.ad z.drawn.length m.p.cd, .slice m.p.as' z.devs.length m.p.cs, .slice (some ⟨m.p.G, 0, none⟩) z.n m.p.cg, .slice (some ⟨m.p.L, 0, none⟩) z.n z.n, .slice (some ⟨m.p.E, 0, none⟩) z.n z.n, .slice (some ⟨m.p.D, 0, none⟩) z.n z.n, .int .i64 (m.c : Int), .int .i64 (m.b : Int), .int .i64 (m.f : Int)] 74)
      have hn6 := alloc_new wr (.cells #[.int .i64 z.points, .slice m.p.af z.fed.length m.p.cf, .slice m.p.ad z.drawn.length m.p.cd, .slice m.p.as' z.devs.length m.p.cs, .slice (some ⟨m.p.G, 0, none⟩) z.n m.p.cg, .slice (some ⟨m.p.L, 0, none⟩) z.n z.n, .slice (some ⟨m.p.E, 0, none⟩) z.n z.n, .slice (some ⟨m.p.D, 0, none⟩) z.n z.n, .int .i64 (m.c : Int), .int .i64 (m.b : Int), .int .i64 (m.f : Int)] 74)
      obtain ⟨w6, hw6⟩ : ∃ x, x = wr.alloc (.cells #[.int .i64 z.points, .slice m.p.af z.fed.length m.p.cf, .slice m.p.ad z.drawn.length m.p.cd, .slice m.p.as' z.devs.length m.p.cs, .slice (some ⟨m.p.G, 0, none⟩) z.n m.p.cg, .slice (some ⟨m.p.L, 0, none⟩) z.n z.n, .slice (some ⟨m.p.E, 0, none⟩) z.n z.n, .slice (some ⟨m.p.D, 0, none⟩) z.n z.n, .int .i64 (m.c : Int), .int .i64 (m.b : Int), .int .i64 (m.f : Int)] 74) := ⟨_, rfl⟩
      rw [← hw6] at hb6 hn6 ⊢
      rw [← hA] at hn6 ⊢
      have HA := hide' hn6
      have HAB : Hid (w.heap.size ≤ A) := by show _ ≤ _; rw [hA]; exact HI.out.1.bel.size
      have HJ : Hid (PlanI w y K (.slice (some ⟨g, 0, none⟩) M.length c) R M w6 ∧ w6.heap[Y]? = some (.cells #[.int .i64 y.points, .slice p.af y.fed.length p.cf, .slice p.ad y.drawn.length p.cd, .slice p.as' y.devs.length p.cs, .slice (some ⟨p.G, 0, none⟩) y.n p.cg, .slice (some ⟨p.L, 0, none⟩) y.n y.n, .slice (some ⟨p.E, 0, none⟩) y.n y.n, .slice (some ⟨p.D, 0, none⟩) y.n y.n] 50 (0, 0))) := ⟨HI.out.1.below hb6, (hb6.block Y (lt_heap HI.out.2)).trans HI.out.2⟩
      have HGA : Hid (g ≠ A) := by
        intro e
        obtain ⟨cur, hc⟩ : ∃ cur, wr.heap[g]? = some (.cells cur 74 (0, 0)) := by
          rcases HI.out.1.row.2 with ⟨h1, _⟩ | ⟨g1, c1, cur, h1, _, h2, _⟩
          · cases h1
          · cases h1
            exact ⟨cur, h2⟩
        have := lt_heap hc
        omega
      clear hb6 hn6 hw6 hA HI
      obtain ⟨d, q, HQ⟩ : ∃ d q, Hid (R[a]? = some (d, q) ∧ m.c = d) := by
        have hl := HJ.out.1.len
        obtain ⟨r, hr⟩ : ∃ r, R[a]? = some r := ⟨_, List.getElem?_eq_getElem (by omega)⟩
        exact ⟨r.1, r.2, hr, (HJ.out.1.cs a m r HMA.out hr).1⟩
      have t8 : w6.cell? ⟨A, 8, none⟩ = some (.int .i64 (m.c : Int)) := (cells_at HA.out 8).trans rfl
      by_cases hce : m.c = en
      · rw [hce] at t8
        go_wp2_with fail
        refine (HJ.out.1.way HB.out.1.first HQ.out.1 hM).mono ?_
        rintro e w7 ⟨v, rfl, hv, hb7⟩
        have HV := hide' hv
        have HB7 := hide' hb7
        clear hv hb7
        go_wp2_with fail
        go_ret2
        refine ⟨.inl ⟨q, v, ?_, rfl, own_mono HV.out HJ.out.1.bel.size⟩, HJ.out.1.bel.trans (HB7.out.mono HJ.out.1.bel.size)⟩
        have h0 : s0 = y.code := HS0.out
        rw [← h0, ← HEN.out]
        exact HB.out.1.found (by rw [HQ.out.1, ← HQ.out.2, hce])
      · have u3 : w6.cell? ⟨Y, 3, none⟩ = some (.slice p.as' y.devs.length p.cs) := (cells_at HJ.out.2 3).trans rfl
        have HCE := hide' hce
        go_wp2_with fail
        clear t8 u3
        rw [show ((m.c : Int) == (en : Int)) = false from beq_eq_false_iff_ne.2 (fun e => HCE.out (by omega))]
        go_loopw [8, 50] (fun rv kv wr => ∃ (k : Nat) (R : List (Nat × List Nat)) (M : List PlaceM), kv = .int .i64 k ∧ k ≤ y.devs.length ∧ a < M.length ∧ M.length ≤ 1024 ∧ Hid (Bfs (leadF y) s0 R a k ∧ (∀ (i : Nat) (q : List Nat), i < a + 1 → R[i]? ≠ some (en, q)) ∧ R[a]? = some (m.c, q)) ∧ Hid (PlanI w y K rv R M wr ∧ wr.heap[Y]? = some (.cells #[.int .i64 y.points, .slice p.af y.fed.length p.cf, .slice p.ad y.drawn.length p.cd, .slice p.as' y.devs.length p.cs, .slice (some ⟨p.G, 0, none⟩) y.n p.cg, .slice (some ⟨p.L, 0, none⟩) y.n y.n, .slice (some ⟨p.E, 0, none⟩) y.n y.n, .slice (some ⟨p.D, 0, none⟩) y.n y.n] 50 (0, 0)) ∧ wr.heap[A]? = some (.cells #[.int .i64 z.points, .slice m.p.af z.fed.length m.p.cf, .slice m.p.ad z.drawn.length m.p.cd, .slice m.p.as' z.devs.length m.p.cs, .slice (some ⟨m.p.G, 0, none⟩) z.n m.p.cg, .slice (some ⟨m.p.L, 0, none⟩) z.n z.n, .slice (some ⟨m.p.E, 0, none⟩) z.n z.n, .slice (some ⟨m.p.D, 0, none⟩) z.n z.n, .int .i64 (m.c : Int), .int .i64 (m.b : Int), .int .i64 (m.f : Int)] 74 (0, 0)) ∧ M[a]? = some m ∧ rv.ownBlock ≠ some A)) (fun _ kv _ => y.devs.length - (intOf kv).toNat)
        case atStart =>
          refine ⟨0, R, M, rfl, Nat.zero_le _, hax, hM, ⟨HB.out.1, fun i r hi hr => ?_, by rw [HQ.out.1, ← HQ.out.2]⟩, HJ.out.1, HJ.out.2, HA.out, HMA.out, fun h => HGA.out (by cases h; rfl)⟩
          by_cases e : i = a
          · rw [e, HQ.out.1] at hr
            cases hr
            exact HCE.out HQ.out.2
          · exact HB.out.2 i r (by omega) hr
        case round =>
          clear HB HQ HJ HA HMA HGA HCE
          obtain ⟨k, R2, M2, rfl, hkn, ha2, hM2, HB2, HI2⟩ := hrel
          by_cases hk : k < y.devs.length
          · have t8 : wr.cell? ⟨A, 8, none⟩ = some (.int .i64 (m.c : Int)) := (cells_at HI2.out.2.2.1 8).trans rfl
            have hcs := HI2.out.1.cs a m _ HI2.out.2.2.2.1 HB2.out.2.2
            have HCM := hide' hcs.2
            have hp2 : 2 ^ y.devs.length ≤ 2 ^ 10 := Nat.pow_le_pow_right (by decide) hd10
            have hmc : m.c < 1024 := by have := hcs.2.1; omega
            clear hcs hp2
            obtain ⟨hx1, hx2⟩ := xor_pow hmc (show k < 10 by omega)
            obtain ⟨t, HTT⟩ : ∃ t, Hid (t = m.c ^^^ 2 ^ k) := ⟨_, rfl⟩
            rw [← HTT.out] at hx1 hx2
            have HXO : Hid (bits BinOp.xor IntKind.i64 (m.c : Int) (IntKind.i64.wrap (2 ^ k)) = (t : Int)) := by show _ = _; rw [← hx1, IntWalk.i64_left]
            have HTC : Hid (t = ((y.at m.c).turn k).code) := HTT.out.trans (code_xor hd10 hk HCM.out.1)
            clear hx1 HTT
            go_upto_region 15 with fail
            refine wp_region_tail (fun W => W.cell? ⟨A, 8, none⟩ = some (.int .i64 (m.c : Int))) 5 (by kernel_rfl) ?_
            refine wpAnyD_takeAt 0 (some 53) (v := ?_) rfl (by kernel_rfl) (by kernel_rfl) (by kernel_rfl) (by kernel_rfl) (by kernel_rfl) (fun _ _ _ h => h) (by exact t8) (fun o hop => ?_) ?_
            rotate_left
            · injection hop with hop
              subst hop
              refine ⟨rfl, fun W hW => ?_⟩
              go_simp
              first
              | rfl
              | (constructor <;> rfl)
            try simp only [Act.put, List.setIfInBounds_toArray, List.set_cons_zero, List.set_cons_succ]
            refine wpAnyD_takeAt 1 (some 54) (v := ?_) rfl (by kernel_rfl) (by kernel_rfl) (by kernel_rfl) (by kernel_rfl) (by kernel_rfl) (fun _ _ _ h => h) (by exact t8) (fun o hop => ?_) ?_
            rotate_left
            · injection hop with hop
              subst hop
              refine ⟨rfl, fun W hW => ?_⟩
              go_simp
              first
              | rfl
              | (constructor <;> rfl)
            try simp only [Act.put, List.setIfInBounds_toArray, List.set_cons_zero, List.set_cons_succ]
            refine wpAnyD_takeAt 2 (some 55) (v := ?_) rfl (by kernel_rfl) (by kernel_rfl) (by kernel_rfl) (by kernel_rfl) (by kernel_rfl) (fun _ _ _ h => h) (by exact t8) (fun o hop => ?_) ?_
            rotate_left
            · injection hop with hop
              subst hop
              refine ⟨rfl, fun W hW => ?_⟩
              go_simp
              first
              | rfl
              | (constructor <;> rfl)
            try simp only [Act.put, List.setIfInBounds_toArray, List.set_cons_zero, List.set_cons_succ]
            refine wpAnyD_takeAt 3 (some 56) (v := ?_) rfl (by kernel_rfl) (by kernel_rfl) (by kernel_rfl) (by kernel_rfl) (by kernel_rfl) (fun _ _ _ h => h) (by exact t8) (fun o hop => ?_) ?_
            rotate_left
            · injection hop with hop
              subst hop
              refine ⟨rfl, fun W hW => ?_⟩
              go_simp
              first
              | rfl
              | (constructor <;> rfl)
            try simp only [Act.put, List.setIfInBounds_toArray, List.set_cons_zero, List.set_cons_succ]
            refine wpAnyD_takeAt 4 (some 57) (v := ?_) rfl (by kernel_rfl) (by kernel_rfl) (by kernel_rfl) (by kernel_rfl) (by kernel_rfl) (fun _ _ _ h => h) (by exact t8) (fun o hop => ?_) ?_
            rotate_left
            · injection hop with hop
              subst hop
              refine ⟨rfl, fun W hW => ?_⟩
              go_simp
              first
              | rfl
              | (constructor <;> rfl)
            try simp only [Act.put, List.setIfInBounds_toArray, List.set_cons_zero, List.set_cons_succ]
            refine wpAnyT_one (i := 5) (by kernel_rfl) rfl rfl (fun K' hK => ?_)
            go_simp
            rw [HXO.out]
            clear HXO
            refine hK.out _ _ (fun h => absurd rfl h) ?_
            clear hK K'
            try simp only [Act.put, List.setIfInBounds_toArray, List.set_cons_zero, List.set_cons_succ]
            refine wpAnyT_done (by kernel_rfl) ?_ _
            have hbd := (Below.refl wr.heap.size wr).drew
            have HJ2 : Hid (PlanI w y K u8 R2 M2 wr.drew ∧ wr.drew.heap[Y]? = some (.cells #[.int .i64 y.points, .slice p.af y.fed.length p.cf, .slice p.ad y.drawn.length p.cd, .slice p.as' y.devs.length p.cs, .slice (some ⟨p.G, 0, none⟩) y.n p.cg, .slice (some ⟨p.L, 0, none⟩) y.n y.n, .slice (some ⟨p.E, 0, none⟩) y.n y.n, .slice (some ⟨p.D, 0, none⟩) y.n y.n] 50 (0, 0)) ∧ wr.drew.heap[A]? = some (.cells #[.int .i64 z.points, .slice m.p.af z.fed.length m.p.cf, .slice m.p.ad z.drawn.length m.p.cd, .slice m.p.as' z.devs.length m.p.cs, .slice (some ⟨m.p.G, 0, none⟩) z.n m.p.cg, .slice (some ⟨m.p.L, 0, none⟩) z.n z.n, .slice (some ⟨m.p.E, 0, none⟩) z.n z.n, .slice (some ⟨m.p.D, 0, none⟩) z.n z.n, .int .i64 (m.c : Int), .int .i64 (m.b : Int), .int .i64 (m.f : Int)] 74 (0, 0)) ∧ M2[a]? = some m ∧ u8.ownBlock ≠ some A) := ⟨HI2.out.1.below hbd, (hbd.block Y (lt_heap HI2.out.2.1)).trans HI2.out.2.1, (hbd.block A (lt_heap HI2.out.2.2.1)).trans HI2.out.2.2.1, HI2.out.2.2.2⟩
            obtain ⟨wd, hwd⟩ : ∃ x, x = wr.drew := ⟨_, rfl⟩
            rw [← hwd] at HJ2 ⊢
            clear hbd hwd t8 HI2
            go_upto_region 16 with fail
            obtain ⟨kn, hkn2, hiff⟩ := HJ2.out.1.kn
            have HKN := hide' (And.intro hkn2 hiff)
            clear hkn2 hiff
            have hkc := (HKN.out.1.cell hx2).1
            rcases hkt : kn t with _ | _
            · rw [hkt] at hkc
              go_upto_region 17 with fail
              clear hkc
              have v0 : wd.cell? ⟨A, 0, none⟩ = some (.int .i64 z.points) := (cells_at HJ2.out.2.2.1 0).trans rfl
              have v1 : wd.cell? ⟨A, 1, none⟩ = some (.slice m.p.af z.fed.length m.p.cf) := (cells_at HJ2.out.2.2.1 1).trans rfl
              have v2 : wd.cell? ⟨A, 2, none⟩ = some (.slice m.p.ad z.drawn.length m.p.cd) := (cells_at HJ2.out.2.2.1 2).trans rfl
              have v3 : wd.cell? ⟨A, 3, none⟩ = some (.slice m.p.as' z.devs.length m.p.cs) := (cells_at HJ2.out.2.2.1 3).trans rfl
              have v4 : wd.cell? ⟨A, 4, none⟩ = some (.slice (some ⟨m.p.G, 0, none⟩) z.n m.p.cg) := (cells_at HJ2.out.2.2.1 4).trans rfl
              have v5 : wd.cell? ⟨A, 5, none⟩ = some (.slice (some ⟨m.p.L, 0, none⟩) z.n z.n) := (cells_at HJ2.out.2.2.1 5).trans rfl
              have v6 : wd.cell? ⟨A, 6, none⟩ = some (.slice (some ⟨m.p.E, 0, none⟩) z.n z.n) := (cells_at HJ2.out.2.2.1 6).trans rfl
              have v7 : wd.cell? ⟨A, 7, none⟩ = some (.slice (some ⟨m.p.D, 0, none⟩) z.n z.n) := (cells_at HJ2.out.2.2.1 7).trans rfl
              have HWZ : Hid (WorkB w wd z m.p) := by
                show WorkB _ _ _ _
                rw [HZZ.out]
                exact HJ2.out.1.work m (List.mem_of_getElem? HJ2.out.2.2.2.1)
              have HC : Hid (Calls Try.prog 20 #[.agg #[.int .i64 z.points, .slice m.p.af z.fed.length m.p.cf, .slice m.p.ad z.drawn.length m.p.cd, .slice m.p.as' z.devs.length m.p.cs, .slice (some ⟨m.p.G, 0, none⟩) z.n m.p.cg, .slice (some ⟨m.p.L, 0, none⟩) z.n z.n, .slice (some ⟨m.p.E, 0, none⟩) z.n z.n, .slice (some ⟨m.p.D, 0, none⟩) z.n z.n], .int .i64 (k : Int)] wd (MoveO z m.p k wd)) := move_any z (by rw [HZZ.out]; exact at_may HM.out _) m.p k wd (HWZ.out.now HJ2.out.1.bel) (by rw [HZZ.out, at_len]; exact hk)
              go_wp2_with fail
              refine HC.out.mono ?_
              clear HC v0 v1 v2 v3 v4 v5 v6 v7
              rintro e w7 hmo
              obtain ⟨⟨hne, rfl⟩ | ⟨h0, q2, rfl, hwq⟩, hb7⟩ := HWZ.out.move hmo
              · clear hmo
                have HNB : Hid (Bfs (leadF y) s0 R2 a (k + 1)) := HB2.out.1.skip HB2.out.2.2 (fun t2 h2 => by
                  have h3 := (lead_some HM.out h2).2.2.2.1
                  rw [HZZ.out] at hne
                  exact absurd h3 hne)
                obtain ⟨er, hei⟩ : ∃ x, x = moveErr z k := ⟨_, rfl⟩
                rw [← hei] at hne ⊢
                clear hei
                have HJ7 := hide' (And.intro (HJ2.out.1.below hb7) (And.intro ((hb7.block Y (lt_heap HJ2.out.2.1)).trans HJ2.out.2.1) ((hb7.block A (lt_heap HJ2.out.2.2.1)).trans HJ2.out.2.2.1)))
                clear hb7
                unfold zero8
                go_upto_region 18 with fail
                have hb8 := below_al w7 (.cells #[.int .i64 0, .slice none 0 0, .slice none 0 0, .slice none 0 0, .slice none 0 0, .slice none 0 0, .slice none 0 0, .slice none 0 0] 50)
                obtain ⟨w8, hw8⟩ : ∃ x, x = w7.alloc (.cells #[.int .i64 0, .slice none 0 0, .slice none 0 0, .slice none 0 0, .slice none 0 0, .slice none 0 0, .slice none 0 0, .slice none 0 0] 50) := ⟨_, rfl⟩
                rw [← hw8] at hb8 ⊢
                clear hw8
                have HJ8 : Hid (PlanI w y K u8 R2 M2 w8 ∧ w8.heap[Y]? = some (.cells #[.int .i64 y.points, .slice p.af y.fed.length p.cf, .slice p.ad y.drawn.length p.cd, .slice p.as' y.devs.length p.cs, .slice (some ⟨p.G, 0, none⟩) y.n p.cg, .slice (some ⟨p.L, 0, none⟩) y.n y.n, .slice (some ⟨p.E, 0, none⟩) y.n y.n, .slice (some ⟨p.D, 0, none⟩) y.n y.n] 50 (0, 0)) ∧ w8.heap[A]? = some (.cells #[.int .i64 z.points, .slice m.p.af z.fed.length m.p.cf, .slice m.p.ad z.drawn.length m.p.cd, .slice m.p.as' z.devs.length m.p.cs, .slice (some ⟨m.p.G, 0, none⟩) z.n m.p.cg, .slice (some ⟨m.p.L, 0, none⟩) z.n z.n, .slice (some ⟨m.p.E, 0, none⟩) z.n z.n, .slice (some ⟨m.p.D, 0, none⟩) z.n z.n, .int .i64 (m.c : Int), .int .i64 (m.b : Int), .int .i64 (m.f : Int)] 74 (0, 0)) ∧ M2[a]? = some m ∧ u8.ownBlock ≠ some A) := ⟨HJ7.out.1.below hb8, (hb8.block Y (lt_heap HJ7.out.2.1)).trans HJ7.out.2.1, (hb8.block A (lt_heap HJ7.out.2.2)).trans HJ7.out.2.2, HJ2.out.2.2.2⟩
                clear hb8 HJ7 HJ2 HWZ
                go_upto_region 21 with fail
                go_wp2_with fail
                go_roundw
                case rel => exact ⟨k + 1, R2, M2, by go_num, by omega, ha2, hM2, ⟨HNB.out, HB2.out.2⟩, HJ8.out⟩
                case measure => simp only [intOf]; omega
              · clear hmo
                have HLD : Hid (leadF y m.c k = some t) := by
                  show _ = _
                  rw [lead_is hk HCM.out.1 HCM.out.2.1, if_pos (by rw [HZZ.out] at h0; exact h0), ← HTC.out]
                have hls := lead_some HM.out HLD.out
                have hl3 := hls.2.2.1
                have hl5 := hls.2.2.2.2.1
                have hl6 := hls.2.2.2.2.2.1
                clear hls
                have HNB := hide' (Bfs.more HB2.out.1 HB2.out.2.2 HLD.out (fun j r hj => by
                  have h1 := (HKN.out.2 t hx2).2 ⟨j, r, hj⟩
                  rw [hkt] at h1
                  cases h1))
                obtain ⟨zt, hzt⟩ : ∃ x, x = z.turn k := ⟨_, rfl⟩
                have hze : zt = y.at t := by rw [hzt, hl5, HZZ.out]
                rw [← hzt] at hwq ⊢
                have HLS := hide' (And.intro hl3 (And.intro hl6 hze))
                have HWQ := hide' hwq
                clear hl3 hl5 hl6 hwq hzt hze h0
                have HJ7 := hide' (And.intro (HJ2.out.1.below hb7) (And.intro ((hb7.block Y (lt_heap HJ2.out.2.1)).trans HJ2.out.2.1) ((hb7.block A (lt_heap HJ2.out.2.2.1)).trans HJ2.out.2.2.1)))
                have HOA := hide' HJ2.out.2.2.2
                clear hb7 HKN HJ2 HWZ hkt
                unfold workV
                go_upto_region 18 with fail
                obtain ⟨B, hB⟩ : ∃ x, x = w7.heap.size := ⟨_, rfl⟩
                have hb8 := below_al w7 (.cells #[.int .i64 zt.points, .slice q2.af zt.fed.length q2.cf, .slice q2.ad zt.drawn.length q2.cd, .slice q2.as' zt.devs.length q2.cs, .slice (some ⟨q2.G, 0, none⟩) zt.n q2.cg, .slice (some ⟨q2.L, 0, none⟩) zt.n zt.n, .slice (some ⟨q2.E, 0, none⟩) zt.n zt.n, .slice (some ⟨q2.D, 0, none⟩) zt.n zt.n] 50)
                have hn8 := alloc_new w7 (.cells #[.int .i64 zt.points, .slice q2.af zt.fed.length q2.cf, .slice q2.ad zt.drawn.length q2.cd, .slice q2.as' zt.devs.length q2.cs, .slice (some ⟨q2.G, 0, none⟩) zt.n q2.cg, .slice (some ⟨q2.L, 0, none⟩) zt.n zt.n, .slice (some ⟨q2.E, 0, none⟩) zt.n zt.n, .slice (some ⟨q2.D, 0, none⟩) zt.n zt.n] 50)
                obtain ⟨w8, hw8⟩ : ∃ x, x = w7.alloc (.cells #[.int .i64 zt.points, .slice q2.af zt.fed.length q2.cf, .slice q2.ad zt.drawn.length q2.cd, .slice q2.as' zt.devs.length q2.cs, .slice (some ⟨q2.G, 0, none⟩) zt.n q2.cg, .slice (some ⟨q2.L, 0, none⟩) zt.n zt.n, .slice (some ⟨q2.E, 0, none⟩) zt.n zt.n, .slice (some ⟨q2.D, 0, none⟩) zt.n zt.n] 50) := ⟨_, rfl⟩
                rw [← hw8] at hb8 hn8 ⊢
                rw [← hB] at hn8 ⊢
                clear hw8 hB
                have H8 := hide' (HJ7.out.1.below hb8)
                have HB8 := hide' hb8
                obtain ⟨kn8, hk8, _⟩ := H8.out.kn
                obtain ⟨k1, f1⟩ := hk8.cell hx2
                have HKB : Hid (∀ (j : Nat) (u : Value), w8.cell? ⟨B, j, none⟩ = some u → (w8.setCell ⟨K, t, none⟩ (.bool true)).cell? ⟨B, j, none⟩ = some u) := by
                  intro j u hu
                  obtain ⟨ks, hks, _, _⟩ := hk8.blk
                  have h1 := (keep_set hks t (.bool true) _ _ _ _ hn8 (by decide)).trans hn8
                  rw [cells_at h1, ← cells_at hn8]
                  exact hu
                have HR9 : Hid ((w8.setCell ⟨K, t, none⟩ (.bool true)).ownsRow w.heap.size 74 11 u8 M2.length (M2.flatMap (PlaceM.cells y)) ∧ w.heap.size ≤ (w8.setCell ⟨K, t, none⟩ (.bool true)).heap.size) := by
                  obtain ⟨ks, hks, _, _⟩ := hk8.blk
                  exact ⟨own_keep H8.out.row (keep_set hks t (.bool true)) (by decide), (H8.out.bel.setCell (p := ⟨K, t, none⟩) H8.out.kb _).size⟩
                clear hb8
                go_upto_region 20 with fail
                clear k1 f1
                have b0 := HKB.out 0 _ ((cells_at hn8 0).trans rfl : w8.cell? ⟨B, 0, none⟩ = some (.int .i64 zt.points))
                have b1 := HKB.out 1 _ ((cells_at hn8 1).trans rfl : w8.cell? ⟨B, 1, none⟩ = some (.slice q2.af zt.fed.length q2.cf))
                have b2 := HKB.out 2 _ ((cells_at hn8 2).trans rfl : w8.cell? ⟨B, 2, none⟩ = some (.slice q2.ad zt.drawn.length q2.cd))
                have b3 := HKB.out 3 _ ((cells_at hn8 3).trans rfl : w8.cell? ⟨B, 3, none⟩ = some (.slice q2.as' zt.devs.length q2.cs))
                have b4 := HKB.out 4 _ ((cells_at hn8 4).trans rfl : w8.cell? ⟨B, 4, none⟩ = some (.slice (some ⟨q2.G, 0, none⟩) zt.n q2.cg))
                have b5 := HKB.out 5 _ ((cells_at hn8 5).trans rfl : w8.cell? ⟨B, 5, none⟩ = some (.slice (some ⟨q2.L, 0, none⟩) zt.n zt.n))
                have b6 := HKB.out 6 _ ((cells_at hn8 6).trans rfl : w8.cell? ⟨B, 6, none⟩ = some (.slice (some ⟨q2.E, 0, none⟩) zt.n zt.n))
                have b7 := HKB.out 7 _ ((cells_at hn8 7).trans rfl : w8.cell? ⟨B, 7, none⟩ = some (.slice (some ⟨q2.D, 0, none⟩) zt.n zt.n))
                obtain ⟨w9, hw9⟩ : ∃ x, x = w8.setCell ⟨K, t, none⟩ (.bool true) := ⟨_, rfl⟩
                rw [← hw9] at b0 b1 b2 b3 b4 b5 b6 b7 HR9 ⊢
                have HW9 := hide' hw9
                clear hw9
                have hone : ∀ u ∈ ([.int .i64 zt.points, .slice q2.af zt.fed.length q2.cf, .slice q2.ad zt.drawn.length q2.cd, .slice q2.as' zt.devs.length q2.cs, .slice (some ⟨q2.G, 0, none⟩) zt.n q2.cg, .slice (some ⟨q2.L, 0, none⟩) zt.n zt.n, .slice (some ⟨q2.E, 0, none⟩) zt.n zt.n, .slice (some ⟨q2.D, 0, none⟩) zt.n zt.n, .int .i64 (t : Int), .int .i64 (k : Int), .int .i64 (a : Int)] : List Value), u.oneCell' = true := fun u hu => by
                  simp only [List.mem_cons, List.not_mem_nil, or_false] at hu
                  rcases hu with rfl | rfl | rfl | rfl | rfl | rfl | rfl | rfl | rfl | rfl | rfl <;> rfl
                clear hk8 hn8 HKB
                go_wp2_with (at_builtin; refine wpList_append_own _ rfl _ _ 75 rfl w.heap.size 74 i74 _ 11 200 Try.underlying75 hi74 h740 h741 h742 rfl (by decide) _ _ _ rfl (own_below HR9.out.1 (below_al _ _) (Nat.le_refl _)) ⟨w9.heap.size, 0, none⟩ 1 1 [.int .i64 zt.points, .slice q2.af zt.fed.length q2.cf, .slice q2.ad zt.drawn.length q2.cd, .slice q2.as' zt.devs.length q2.cs, .slice (some ⟨q2.G, 0, none⟩) zt.n q2.cg, .slice (some ⟨q2.L, 0, none⟩) zt.n zt.n, .slice (some ⟨q2.E, 0, none⟩) zt.n zt.n, .slice (some ⟨q2.D, 0, none⟩) zt.n zt.n, .int .i64 (t : Int), .int .i64 (k : Int), .int .i64 (a : Int)] rfl rfl (cell_news _ [.int .i64 zt.points, .slice q2.af zt.fed.length q2.cf, .slice q2.ad zt.drawn.length q2.cd, .slice q2.as' zt.devs.length q2.cs, .slice (some ⟨q2.G, 0, none⟩) zt.n q2.cg, .slice (some ⟨q2.L, 0, none⟩) zt.n zt.n, .slice (some ⟨q2.E, 0, none⟩) zt.n zt.n, .slice (some ⟨q2.D, 0, none⟩) zt.n zt.n, .int .i64 (t : Int), .int .i64 (k : Int), .int .i64 (a : Int)] 74) hone (by unfold maxLen; omega) (by omega) (Nat.le_trans HR9.out.2 (below_al _ _).size) ?_; intro v' w11 hown' hgrow _; refine Still.go ?_)
                unfold Still
                rw [HW9.out] at hgrow
                have HG := hide' (HJ7.out.1.grow (m := ⟨t, k, a, q2⟩) HJ7.out.2.1 HJ7.out.2.2 rfl HOA.out.2 (by omega) HB8.out (cs := [.int .i64 zt.points, .slice q2.af zt.fed.length q2.cf, .slice q2.ad zt.drawn.length q2.cd, .slice q2.as' zt.devs.length q2.cs, .slice (some ⟨q2.G, 0, none⟩) zt.n q2.cg, .slice (some ⟨q2.L, 0, none⟩) zt.n zt.n, .slice (some ⟨q2.E, 0, none⟩) zt.n zt.n, .slice (some ⟨q2.D, 0, none⟩) zt.n zt.n, .int .i64 (t : Int), .int .i64 (k : Int), .int .i64 (a : Int)]) (by rw [HLS.out.2.2]; rfl) hgrow hown' rfl HLS.out.1 hx2 HLS.out.2.1 (by rw [← HLS.out.2.2]; exact HWQ.out) ⟨ha2, _, _, HB2.out.2.2, rfl⟩)
                have HLR : Hid (a < R2.length) := by show _ < _; rw [← HJ7.out.1.len]; exact ha2
                clear hown' hgrow HW9 hone HR9 H8 HB8 b0 b1 b2 b3 b4 b5 b6 b7 HWQ HJ7
                go_wp2_with fail
                go_roundw
                case rel => exact ⟨k + 1, _, _, by go_num, by omega, by rw [List.length_append]; exact Nat.lt_of_lt_of_le ha2 (Nat.le_add_right _ _), HG.out.1.count HNB.out hd10, ⟨HNB.out, fun i r hi => (by rw [List.getElem?_append_left (by have := HLR.out; omega)]; exact HB2.out.2.1 i r hi), by rw [List.getElem?_append_left (by have := HLR.out; omega)]; exact HB2.out.2.2⟩, HG.out.1, HG.out.2.1, HG.out.2.2.1, by rw [List.getElem?_append_left ha2]; exact HOA.out.1, HG.out.2.2.2⟩
                case measure => simp only [intOf]; omega
            · rw [hkt] at hkc
              have HNB : Hid (Bfs (leadF y) s0 R2 a (k + 1)) := HB2.out.1.skip HB2.out.2.2 (fun t2 h2 => by
                have h3 := (lead_some HM.out h2).2.2.2.2.2.2
                rw [← HTC.out] at h3
                rw [h3]
                exact (HKN.out.2 t hx2).1 hkt)
              go_upto_region 21 with fail
              go_wp2_with fail
              go_roundw
              case rel => exact ⟨k + 1, R2, M2, by go_num, by omega, ha2, hM2, ⟨HNB.out, HB2.out.2⟩, HJ2.out⟩
              case measure => simp only [intOf]; omega
          · go_wp2_with fail
            go_roundw
            case rel =>
              have hke : k = y.devs.length := by omega
              refine ⟨a + 1, R2, M2, by go_num, by omega, hM2, ⟨?_, HB2.out.2.1⟩, HI2.out.1, HI2.out.2.1⟩
              have h1 := HB2.out.1
              rw [hke] at h1
              exact h1.next (fun c m t h => (lead_some HM.out h).1)
            case measure => simp only [intOf]; omega
    · go_wp2_with fail
      go_ret2
      refine ⟨.inr ⟨fun q => ?_, rfl⟩, HI.out.1.bel⟩
      have h0 : s0 = y.code := HS0.out
      rw [← h0, ← HEN.out]
      refine HB.out.1.none (by rw [← HI.out.1.len]; omega) (fun i r hi => ?_) q
      have hl := (List.getElem?_eq_some_iff.1 hi).1
      rw [← HI.out.1.len] at hl
      exact HB.out.2 i r (by omega) hi
end Go.Proofs.Ytcnoipcpifackah
