/- A master's own functions: ticks, what may be. -/
import Derived.Test.YtjhmendiefojoamYc
import Derived.Test.YtjhmendiefojoamO3
namespace Go.Proofs.Ytjhmendiefojoam
open Go.RowKit Go.Shelf

theorem wrap_ok {x : Int} (h : -9223372036854775808 ≤ x ∧ x ≤ 9223372036854775807) : IntKind.i64.wrap x = x := by
  rw [IntKind.wrap_i64]
  omega
theorem mset2 {w : World} {K e : Nat} {M : MaM} (h : w.heap[K]? = some (.cells M.wait.cells e (0, 0)))  : ((w.setCell ⟨K, 5, none⟩ (.int .i64 0)).setCell ⟨K, 7, none⟩ (.int .i64 (M.tries + 1))).heap[K]? = some (.cells (M.again : MaM).cells e (0, 0)) ∧ But K w ((w.setCell ⟨K, 5, none⟩ (.int .i64 0)).setCell ⟨K, 7, none⟩ (.int .i64 (M.tries + 1))) := by
  refine ⟨?_, But.set (But.set (But.refl K w) _ _) _ _⟩
  exact (set_any (set_any (h) 5 _) 7 _).trans (by unfold MaM.wait MaM.cells; simp only [List.setIfInBounds_toArray, List.set_cons_zero, List.set_cons_succ]; try rfl)
set_option maxRecDepth 100000 in
set_option maxHeartbeats 2000000 in
theorem mtick_any (M : MaM) (B K : Nat) (w : World) (h : w.heap[K]? = some (.cells M.cells 64 (0, 0))) (hB : B ≤ K) (ht : 0 ≤ M.timer ∧ M.timer ≤ 1000) (hr : 0 ≤ M.tries ∧ M.tries ≤ 1000) : Calls Try.prog 36 #[.pointer (some ⟨K, 0, none⟩)] w (MasO B K (if M.timer + 1 < M.pat then M.wait else if M.tries = M.lim then M.giveUp else M.again) (if M.timer + 1 < M.pat then [] else if M.tries = M.lim then [] else [M.again.msg]) w) := by
  obtain ⟨c0, c1, c2, c3, c4, c5, c6, c7, c8, c9⟩ := cellM h
  obtain ⟨e0, e1, e2, e3, e4, e5, e6, e7, e8, e9⟩ := frozenP10 h
  have HE := hide' (tim1 h)
  have HBS : Hid (B ≤ w.heap.size) := by have := lt_heap h; show _ ≤ _; omega
  have w5 : IntKind.i64.wrap (M.timer + 1) = M.timer + 1 := wrap_ok (by omega)
  have w7 : IntKind.i64.wrap (M.tries + 1) = M.tries + 1 := wrap_ok (by omega)
  clear h
  obtain ⟨PO, hPO⟩ : ∃ P, P = MasO B K (if M.timer + 1 < M.pat then M.wait else if M.tries = M.lim then M.giveUp else M.again) (if M.timer + 1 < M.pat then [] else if M.tries = M.lim then [] else [M.again.msg]) w := ⟨_, rfl⟩
  rw [← hPO]
  have HPO : Hid (∀ e w', MasO B K (if M.timer + 1 < M.pat then M.wait else if M.tries = M.lim then M.giveUp else M.again) (if M.timer + 1 < M.pat then [] else if M.tries = M.lim then [] else [M.again.msg]) w e w' → PO e w') := fun e w' h => by rw [hPO]; exact h
  clear hPO
  go_enter Try.func36, Try.ntmps36
  go_upto_region 2 with fail
  clear c0 c1 c2 c3 c4 c5 c6 c7 c8 c9 e0 e1 e2 e3 e4 e5 e6 e7 e8 e9
  obtain ⟨w3, hw3⟩ : ∃ x, x = (w.setCell ⟨K, 5, none⟩ (.int .i64 (M.timer + 1))) := ⟨_, rfl⟩
  rw [← hw3] at HE ⊢
  clear hw3
  obtain ⟨d0, d1, d2, d3, d4, d5, d6, d7, d8, d9⟩ := cellM HE.out.1
  simp only [MaM.wait] at d0 d1 d2 d3 d4 d5 d6 d7 d8 d9
  have HB3 : Hid (Below B w w3) := HE.out.2.below hB HBS.out
  by_cases hlt : M.timer + 1 < M.pat
  · rw [if_pos hlt, if_pos hlt] at HPO
    have HF : Hid (∀ q, MasO B K M.wait [] w (.returned (.slice none 0 0)) (w3.drewN q)) := fun q => MasO.none HE.out.1 (below_drewN HB3.out q)
    have hd : decide (M.timer + 1 < M.pat) = true := decide_eq_true hlt
    clear HE
    go_quiet (fail)
    go_wp2
    first
    | exact HPO.out _ _ (HF.out _)
    | (go_ret
       exact HPO.out _ _ (HF.out _))
  · rw [if_neg hlt, if_neg hlt] at HPO
    have hd : decide (M.timer + 1 < M.pat) = false := decide_eq_false hlt
    go_quiet (fail)
    by_cases heq : M.tries = M.lim
    · rw [if_pos heq, if_pos heq] at HPO
      have HG := hide' (fun z (hz : z.heap[K]? = w3.heap[K]?) => giveUp_any M.wait B K z (hz.trans HE.out.1) hB)
      have he : (M.tries == M.lim) = true := beq_iff_eq.2 heq
      clear HE
      go_upto_region 4 with fail
      go_quiet (fail)
      go_wp2_with fail
      refine (HG.out (w3.drewN _) rfl).mono ?_
      intro e w4 hO
      obtain ⟨v, rfl, q1, q2, q3⟩ := hO
      have HF : Hid (MasO B K M.giveUp [] w (.returned v) w4) := ⟨v, rfl, q1, q2, (below_drewN HB3.out _).trans q3⟩
      clear q1 q2 q3 HG
      go_wp2
      first
      | exact HPO.out _ _ HF.out
      | (go_ret
         exact HPO.out _ _ HF.out)
    · rw [if_neg heq, if_neg heq] at HPO
      have he : (M.tries == M.lim) = false := beq_eq_false_iff_ne.2 heq
      go_upto_region 4 with fail
      go_quiet (fail)
      go_upto_region 6 with fail
      refine code_letter (fun z => Hid (z.heap[K]? = w3.heap[K]? ∧ Below B w z)) ?_ ?_
      · first
        | exact ⟨rfl, below_drewN HB3.out _⟩
        | exact ⟨rfl, below_drewN (below_drewN HB3.out _) _⟩
      intro z0 HZ0
      have hz0 := HZ0.out.1.trans HE.out.1
      have HZA := hide' (mset2 hz0)
      obtain ⟨d0, d1, d2, d3, d4, d5, d6, d7, d8, d9⟩ := cellM hz0
      simp only [MaM.wait] at d0 d1 d2 d3 d4 d5 d6 d7 d8 d9
      obtain ⟨-, -, -, -, -, g5, -, g7⟩ := frozenP8 hz0
      clear hz0 HE
      go_upto_region 8 with fail
      obtain ⟨z2, hz2⟩ : ∃ x, x = (z0.setCell ⟨K, 5, none⟩ (.int .i64 0)).setCell ⟨K, 7, none⟩ (.int .i64 (M.tries + 1)) := ⟨_, rfl⟩
      rw [← hz2] at HZA ⊢
      clear hz2 d0 d1 d2 d3 d4 d5 d6 d7 d8 d9 g5 g7
      have HAS := hide' (asked_any M.again B K z2 HZA.out.1 (by have := lt_heap HZA.out.1; omega))
      have HB4 : Hid (Below B w z2) := HZ0.out.2.trans (HZA.out.2.below hB (Nat.le_trans HBS.out HZ0.out.2.size))
      go_wp2_with fail
      refine HAS.out.mono ?_
      intro e w4 hO
      obtain ⟨v, rfl, q1, q2, q3⟩ := hO
      have HF : Hid (MasO B K M.again [M.again.msg] w (.returned v) w4) := ⟨v, rfl, q1, q2, HB4.out.trans q3⟩
      clear q1 q2 q3 HAS
      go_wp2
      first
      | exact HPO.out _ _ HF.out
      | (go_ret
         exact HPO.out _ _ HF.out)
theorem does_2 (K : Nat) (w : World) : Calls Try.prog 34 #[.pointer (some ⟨K, 0, none⟩), .int .i64 2] w fun e w' => e = .returned (.func (.func 47) #[.pointer (some ⟨K, 0, none⟩)] #[]) ∧ w' = w := by
  go_enter Try.func34, Try.ntmps34
  go_wp2
  go_ret
  exact ⟨rfl, rfl⟩
theorem does_4 (K : Nat) (w : World) : Calls Try.prog 34 #[.pointer (some ⟨K, 0, none⟩), .int .i64 4] w fun e w' => e = .returned (.func (.func 48) #[.pointer (some ⟨K, 0, none⟩)] #[]) ∧ w' = w := by
  go_enter Try.func34, Try.ntmps34
  go_wp2
  go_ret
  exact ⟨rfl, rfl⟩
theorem does_5 (K : Nat) (w : World) : Calls Try.prog 34 #[.pointer (some ⟨K, 0, none⟩), .int .i64 5] w fun e w' => e = .returned (.func (.func 49) #[.pointer (some ⟨K, 0, none⟩)] #[]) ∧ w' = w := by
  go_enter Try.func34, Try.ntmps34
  go_wp2
  go_ret
  exact ⟨rfl, rfl⟩
set_option maxRecDepth 100000 in
set_option maxHeartbeats 2000000 in
theorem bounded_yes (M : MaM) (w : World) (hp : 1 ≤ M.pat ∧ M.pat ≤ 1000) (hl : 1 ≤ M.lim ∧ M.lim ≤ 100) : Calls Try.prog 37 #[.agg M.cells] w fun e w' => e = .returned (.bool true) ∧ Below w.heap.size w w' := by
  have H1 := hide' (within_any M.pat 1 1000)
  have H2 := hide' (within_any M.lim 1 100)
  rw [decide_eq_true hp.1, decide_eq_true hp.2] at H1
  rw [decide_eq_true hl.1, decide_eq_true hl.2] at H2
  obtain ⟨no, ph, now, pt, want, timer, pat, tries, lim, gave⟩ := M
  unfold MaM.cells
  simp only at H1 H2 ⊢
  clear hp hl
  go_enter Try.func37, Try.ntmps37
  go_upto_region 1 with fail
  have hqY := alloc_new w (.cells #[.int .i64 no, .int .i64 ph, .int .i64 now, .int .i64 pt, .bool want, .int .i64 timer, .int .i64 pat, .int .i64 tries, .int .i64 lim, .bool gave] 32)
  have hb1 := below_al w (.cells #[.int .i64 no, .int .i64 ph, .int .i64 now, .int .i64 pt, .bool want, .int .i64 timer, .int .i64 pat, .int .i64 tries, .int .i64 lim, .bool gave] 32)
  obtain ⟨w1, hw1⟩ : ∃ x, x = (w.alloc (.cells #[.int .i64 no, .int .i64 ph, .int .i64 now, .int .i64 pt, .bool want, .int .i64 timer, .int .i64 pat, .int .i64 tries, .int .i64 lim, .bool gave] 32)) := ⟨_, rfl⟩
  rw [← hw1] at hqY hb1 ⊢
  obtain ⟨Y, hnY⟩ : ∃ x, x = w.heap.size := ⟨_, rfl⟩
  have HNE : Hid (w.heap.size ≤ Y) := by show _ ≤ _; omega
  rw [← hnY] at hqY
  rw [show (Value.pointer (some { block := w.heap.size, off := 0 })) = Value.pointer (some { block := Y, off := 0 }) by rw [hnY]]
  have HQY := hide' hqY
  have HB1 := hide' hb1
  clear hqY hb1 hw1 hnY
  obtain ⟨-, -, -, -, -, -, c6, -, c8⟩ := cellsP9 HQY.out
  clear HQY
  go_wp2_with fail
  refine (H1.out _).mono ?_
  rintro e w2 ⟨rfl, rfl⟩
  go_wp2_with fail
  refine (H2.out _).mono ?_
  rintro e w2 ⟨rfl, rfl⟩
  go_wp2
  go_ret
  exact ⟨rfl, HB1.out⟩
set_option maxRecDepth 100000 in
set_option maxHeartbeats 2000000 in
theorem busyWell_yes (M : MaM) (w : World) (hb : M.Busy) (hno : 0 ≤ M.no ∧ M.no ≤ 1000000001) (hpp : 1 ≤ M.pat ∧ M.pat ≤ 1000) : Calls Try.prog 45 #[.agg M.cells] w fun e w' => e = .returned (.bool true) ∧ Below w.heap.size w w' := by
  have H1 := hide' (within_any M.pt 0 15)
  have H2 := hide' (within_any M.timer 0 (M.pat - 1))
  have H3 := hide' (within_any M.tries 1 M.lim)
  rw [decide_eq_true hb.pt.1, decide_eq_true hb.pt.2] at H1
  rw [decide_eq_true hb.timer.1, decide_eq_true hb.timer.2] at H2
  rw [decide_eq_true hb.tries.1, decide_eq_true hb.tries.2] at H3
  obtain ⟨hph, hnow, _, _, _, hgv⟩ := hb
  obtain ⟨no, ph, now, pt, want, timer, pat, tries, lim, gave⟩ := M
  unfold MaM.cells
  simp only at H1 H2 H3 hph hnow hgv hno hpp ⊢
  subst hgv hnow
  have wr1 : IntKind.i64.wrap (no - 1) = no - 1 := wrap_ok (by omega)
  have wr2 : IntKind.i64.wrap (pat - 1) = pat - 1 := wrap_ok (by omega)
  clear hno hpp
  rcases hph with rfl | rfl
  · go_enter Try.func45, Try.ntmps45
    go_upto_region 1 with fail
    have hqY := alloc_new w (.cells #[.int .i64 no, .int .i64 1, .int .i64 (no - 1), .int .i64 pt, .bool want, .int .i64 timer, .int .i64 pat, .int .i64 tries, .int .i64 lim, .bool false] 32)
    have hb1 := below_al w (.cells #[.int .i64 no, .int .i64 1, .int .i64 (no - 1), .int .i64 pt, .bool want, .int .i64 timer, .int .i64 pat, .int .i64 tries, .int .i64 lim, .bool false] 32)
    obtain ⟨w1, hw1⟩ : ∃ x, x = (w.alloc (.cells #[.int .i64 no, .int .i64 1, .int .i64 (no - 1), .int .i64 pt, .bool want, .int .i64 timer, .int .i64 pat, .int .i64 tries, .int .i64 lim, .bool false] 32)) := ⟨_, rfl⟩
    rw [← hw1] at hqY hb1 ⊢
    obtain ⟨Y, hnY⟩ : ∃ x, x = w.heap.size := ⟨_, rfl⟩
    have HNE : Hid (w.heap.size ≤ Y) := by show _ ≤ _; omega
    rw [← hnY] at hqY
    rw [show (Value.pointer (some { block := w.heap.size, off := 0 })) = Value.pointer (some { block := Y, off := 0 }) by rw [hnY]]
    have HQY := hide' hqY
    have HB1 := hide' hb1
    clear hqY hb1 hw1 hnY
    obtain ⟨c0, c1, c2, c3, c4, c5, c6, c7, c8, c9⟩ := cellsP10 HQY.out
    clear HQY
    go_wp2_with fail
    refine (H1.out _).mono ?_
    rintro e w2 ⟨rfl, rfl⟩
    go_wp2_with fail
    refine (H2.out _).mono ?_
    rintro e w2 ⟨rfl, rfl⟩
    go_wp2_with fail
    refine (H3.out _).mono ?_
    rintro e w2 ⟨rfl, rfl⟩
    go_wp2
    go_ret
    exact ⟨rfl, HB1.out⟩
  · go_enter Try.func45, Try.ntmps45
    go_upto_region 1 with fail
    have hqY := alloc_new w (.cells #[.int .i64 no, .int .i64 3, .int .i64 (no - 1), .int .i64 pt, .bool want, .int .i64 timer, .int .i64 pat, .int .i64 tries, .int .i64 lim, .bool false] 32)
    have hb1 := below_al w (.cells #[.int .i64 no, .int .i64 3, .int .i64 (no - 1), .int .i64 pt, .bool want, .int .i64 timer, .int .i64 pat, .int .i64 tries, .int .i64 lim, .bool false] 32)
    obtain ⟨w1, hw1⟩ : ∃ x, x = (w.alloc (.cells #[.int .i64 no, .int .i64 3, .int .i64 (no - 1), .int .i64 pt, .bool want, .int .i64 timer, .int .i64 pat, .int .i64 tries, .int .i64 lim, .bool false] 32)) := ⟨_, rfl⟩
    rw [← hw1] at hqY hb1 ⊢
    obtain ⟨Y, hnY⟩ : ∃ x, x = w.heap.size := ⟨_, rfl⟩
    have HNE : Hid (w.heap.size ≤ Y) := by show _ ≤ _; omega
    rw [← hnY] at hqY
    rw [show (Value.pointer (some { block := w.heap.size, off := 0 })) = Value.pointer (some { block := Y, off := 0 }) by rw [hnY]]
    have HQY := hide' hqY
    have HB1 := hide' hb1
    clear hqY hb1 hw1 hnY
    obtain ⟨c0, c1, c2, c3, c4, c5, c6, c7, c8, c9⟩ := cellsP10 HQY.out
    clear HQY
    go_wp2_with fail
    refine (H1.out _).mono ?_
    rintro e w2 ⟨rfl, rfl⟩
    go_wp2_with fail
    refine (H2.out _).mono ?_
    rintro e w2 ⟨rfl, rfl⟩
    go_wp2_with fail
    refine (H3.out _).mono ?_
    rintro e w2 ⟨rfl, rfl⟩
    go_wp2
    go_ret
    exact ⟨rfl, HB1.out⟩
end Go.Proofs.Ytjhmendiefojoam
