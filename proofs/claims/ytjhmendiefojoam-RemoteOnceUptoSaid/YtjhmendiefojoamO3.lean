/- A master's own functions: what they do. -/
import Derived.Test.YtjhmendiefojoamYc
import Derived.Test.YtjhmendiefojoamO2
namespace Go.Proofs.Ytjhmendiefojoam
open Go.RowKit Go.Shelf

theorem MasO.pre {B K : Nat} {M : MaM} {o : List MsM} {w w1 : World} {e : Ending} {w' : World} (h : MasO B K M o w1 e w') (hb : Below B w w1) : MasO B K M o w e w' := by
  obtain ⟨v, h1, h2, h3, h4⟩ := h
  exact ⟨v, h1, h2, h3, hb.trans h4⟩
theorem MasO.none {B K : Nat} {M : MaM} {w w' : World} (h : w'.heap[K]? = some (.cells M.cells 64 (0, 0))) (hb : Below B w w') : MasO B K M [] w (.returned (.slice none 0 0)) w' := ⟨_, rfl, h, World.ownsRow_nil _ _ _ _, hb⟩
theorem ent3 {w : World} {K e : Nat} {M : MaM} (h : w.heap[K]? = some (.cells M.cells e (0, 0))) (p : Int) : (((w.setCell ⟨K, 1, none⟩ (.int .i64 p)).setCell ⟨K, 5, none⟩ (.int .i64 0)).setCell ⟨K, 7, none⟩ (.int .i64 1)).heap[K]? = some (.cells (M.enter p : MaM).cells e (0, 0)) ∧ But K w (((w.setCell ⟨K, 1, none⟩ (.int .i64 p)).setCell ⟨K, 5, none⟩ (.int .i64 0)).setCell ⟨K, 7, none⟩ (.int .i64 1)) := by
  refine ⟨?_, But.set (But.set (But.set (But.refl K w) _ _) _ _) _ _⟩
  exact (set_any (set_any (set_any (h) 1 _) 5 _) 7 _).trans (by unfold MaM.cells; simp only [List.setIfInBounds_toArray, List.set_cons_zero, List.set_cons_succ]; try rfl)
theorem com5 {w : World} {K e : Nat} {M : MaM} (h : w.heap[K]? = some (.cells M.cells e (0, 0))) (p : Int) (b : Bool) : (((((w.setCell ⟨K, 2, none⟩ (.int .i64 M.no)).setCell ⟨K, 3, none⟩ (.int .i64 p)).setCell ⟨K, 4, none⟩ (.bool b)).setCell ⟨K, 9, none⟩ (.bool false)).setCell ⟨K, 0, none⟩ (.int .i64 (M.no + 1))).heap[K]? = some (.cells (⟨M.no + 1, M.ph, M.no, p, b, M.timer, M.pat, M.tries, M.lim, false⟩ : MaM).cells e (0, 0)) ∧ But K w (((((w.setCell ⟨K, 2, none⟩ (.int .i64 M.no)).setCell ⟨K, 3, none⟩ (.int .i64 p)).setCell ⟨K, 4, none⟩ (.bool b)).setCell ⟨K, 9, none⟩ (.bool false)).setCell ⟨K, 0, none⟩ (.int .i64 (M.no + 1))) := by
  refine ⟨?_, But.set (But.set (But.set (But.set (But.set (But.refl K w) _ _) _ _) _ _) _ _) _ _⟩
  exact (set_any (set_any (set_any (set_any (set_any (h) 2 _) 3 _) 4 _) 9 _) 0 _).trans (by unfold MaM.cells; simp only [List.setIfInBounds_toArray, List.set_cons_zero, List.set_cons_succ]; try rfl)
theorem giv1 {w : World} {K e : Nat} {M : MaM} (h : w.heap[K]? = some (.cells M.cells e (0, 0)))  : (w.setCell ⟨K, 9, none⟩ (.bool true)).heap[K]? = some (.cells (⟨M.no, M.ph, M.now, M.pt, M.want, M.timer, M.pat, M.tries, M.lim, true⟩ : MaM).cells e (0, 0)) ∧ But K w (w.setCell ⟨K, 9, none⟩ (.bool true)) := by
  refine ⟨?_, But.set (But.refl K w) _ _⟩
  exact (set_any (h) 9 _).trans (by unfold MaM.cells; simp only [List.setIfInBounds_toArray, List.set_cons_zero, List.set_cons_succ]; try rfl)
theorem tim1 {w : World} {K e : Nat} {M : MaM} (h : w.heap[K]? = some (.cells M.cells e (0, 0)))  : (w.setCell ⟨K, 5, none⟩ (.int .i64 (M.timer + 1))).heap[K]? = some (.cells (M.wait : MaM).cells e (0, 0)) ∧ But K w (w.setCell ⟨K, 5, none⟩ (.int .i64 (M.timer + 1))) := by
  refine ⟨?_, But.set (But.refl K w) _ _⟩
  exact (set_any (h) 5 _).trans (by unfold MaM.cells; simp only [List.setIfInBounds_toArray, List.set_cons_zero, List.set_cons_succ]; try rfl)
theorem aga2 {w : World} {K e : Nat} {M : MaM} (h : w.heap[K]? = some (.cells M.cells e (0, 0)))  : (((w.setCell ⟨K, 5, none⟩ (.int .i64 (M.timer + 1))).setCell ⟨K, 5, none⟩ (.int .i64 0)).setCell ⟨K, 7, none⟩ (.int .i64 (M.tries + 1))).heap[K]? = some (.cells (M.again : MaM).cells e (0, 0)) ∧ But K w (((w.setCell ⟨K, 5, none⟩ (.int .i64 (M.timer + 1))).setCell ⟨K, 5, none⟩ (.int .i64 0)).setCell ⟨K, 7, none⟩ (.int .i64 (M.tries + 1))) := by
  refine ⟨?_, But.set (But.set (But.set (But.refl K w) _ _) _ _) _ _⟩
  exact (set_any (set_any (set_any (h) 5 _) 5 _) 7 _).trans (by unfold MaM.cells; simp only [List.setIfInBounds_toArray, List.set_cons_zero, List.set_cons_succ]; try rfl)

set_option maxRecDepth 100000 in
set_option maxHeartbeats 2000000 in
theorem enter_any (M : MaM) (B K : Nat) (w : World) (h : w.heap[K]? = some (.cells M.cells 64 (0, 0))) (hB : B ≤ K) (p : Int) : Calls Try.prog 46 #[.pointer (some ⟨K, 0, none⟩), .int .i64 p] w (MasO B K (M.enter p) [(M.enter p).msg] w) := by
  obtain ⟨c0, c1, c2, c3, c4, c5, c6, c7, c8, c9⟩ := cellM h
  obtain ⟨e0, e1, e2, e3, e4, e5, e6, e7, e8, e9⟩ := frozenP10 h
  have HE := hide' (ent3 h p)
  have HA := hide' (fun w' (hw : w'.heap[K]? = some (.cells (M.enter p).cells 64 (0, 0))) => asked_any (M.enter p) B K w' hw (by have := lt_heap hw; omega))
  have HBS : Hid (B ≤ w.heap.size) := by have := lt_heap h; show _ ≤ _; omega
  clear h
  go_enter Try.func46, Try.ntmps46
  go_upto_region 2 with fail
  clear c0 c1 c2 c3 c4 c5 c6 c7 c8 c9 e0 e1 e2 e3 e4 e5 e6 e7 e8 e9
  obtain ⟨w3, hw3⟩ : ∃ x, x = (((w.setCell ⟨K, 1, none⟩ (.int .i64 p)).setCell ⟨K, 5, none⟩ (.int .i64 0)).setCell ⟨K, 7, none⟩ (.int .i64 1)) := ⟨_, rfl⟩
  rw [← hw3] at HE ⊢
  clear hw3
  go_wp2_with fail
  refine (HA.out w3 HE.out.1).mono ?_
  intro e w4 hO
  obtain ⟨v, rfl, q1, q2, q3⟩ := hO
  have HF : Hid (MasO B K (M.enter p) [(M.enter p).msg] w (.returned v) w4) := ⟨v, rfl, q1, q2, (HE.out.2.below hB HBS.out).trans q3⟩
  clear q1 q2 q3 HA HE
  go_wp2
  go_ret
  exact HF.out
set_option maxRecDepth 100000 in
set_option maxHeartbeats 2000000 in
theorem command_any (M : MaM) (B K : Nat) (w : World) (h : w.heap[K]? = some (.cells M.cells 64 (0, 0))) (hB : B ≤ K) (p : Int) (b : Bool) (hno : 0 ≤ M.no ∧ M.no ≤ 1000000000) : Calls Try.prog 30 #[.pointer (some ⟨K, 0, none⟩), .int .i64 p, .bool b] w (MasO B K (askM M p b) [(askM M p b).msg] w) := by
  obtain ⟨c0, c1, c2, c3, c4, c5, c6, c7, c8, c9⟩ := cellM h
  obtain ⟨e0, e1, e2, e3, e4, e5, e6, e7, e8, e9⟩ := frozenP10 h
  have HE := hide' (com5 h p b)
  have HA := hide' (fun w' (hw : w'.heap[K]? = some (.cells (⟨M.no + 1, M.ph, M.no, p, b, M.timer, M.pat, M.tries, M.lim, false⟩ : MaM).cells 64 (0, 0))) => enter_any _ B K w' hw hB 1)
  have HBS : Hid (B ≤ w.heap.size) := by have := lt_heap h; show _ ≤ _; omega
  clear h
  go_enter Try.func30, Try.ntmps30
  go_upto_region 3 with fail
  clear c0 c1 c2 c3 c4 c5 c6 c7 c8 c9 e0 e1 e2 e3 e4 e5 e6 e7 e8 e9
  obtain ⟨w3, hw3⟩ : ∃ x, x = (((((w.setCell ⟨K, 2, none⟩ (.int .i64 M.no)).setCell ⟨K, 3, none⟩ (.int .i64 p)).setCell ⟨K, 4, none⟩ (.bool b)).setCell ⟨K, 9, none⟩ (.bool false)).setCell ⟨K, 0, none⟩ (.int .i64 (M.no + 1))) := ⟨_, rfl⟩
  rw [← hw3] at HE ⊢
  clear hw3
  go_wp2_with fail
  refine (HA.out w3 HE.out.1).mono ?_
  intro e w4 hO
  obtain ⟨v, rfl, q1, q2, q3⟩ := hO
  have HF : Hid (MasO B K (askM M p b) [(askM M p b).msg] w (.returned v) w4) := ⟨v, rfl, q1, q2, (HE.out.2.below hB HBS.out).trans q3⟩
  clear q1 q2 q3 HA HE
  go_wp2
  go_ret
  exact HF.out
set_option maxRecDepth 100000 in
set_option maxHeartbeats 2000000 in
theorem ready_any (M : MaM) (B K : Nat) (w : World) (h : w.heap[K]? = some (.cells M.cells 64 (0, 0))) (hB : B ≤ K) : Calls Try.prog 47 #[.pointer (some ⟨K, 0, none⟩)] w (MasO B K (if M.ph = 1 then M.enter 3 else M) (if M.ph = 1 then [(M.enter 3).msg] else []) w) := by
  obtain ⟨_, c1, _⟩ := cellM h
  have HA := hide' (enter_any M B K w h hB 3)
  have HN := hide' (MasO.none h (Below.refl B w))
  clear h
  by_cases hp : M.ph = 1
  · rw [if_pos hp, if_pos hp]
    have hp2 : (M.ph == 1) = true := beq_iff_eq.2 hp
    rw [hp] at c1
    go_enter Try.func47, Try.ntmps47
    go_wp2_with fail
    refine HA.out.mono ?_
    intro e w4 hO
    obtain ⟨v, rfl, q⟩ := hO
    have HF := hide' q
    clear q HA HN
    go_wp2
    go_ret
    exact ⟨v, rfl, HF.out⟩
  · rw [if_neg hp, if_neg hp]
    have hp2 : (M.ph == 1) = false := beq_eq_false_iff_ne.2 hp
    go_enter Try.func47, Try.ntmps47
    go_wp2
    go_ret
    exact HN.out
set_option maxRecDepth 100000 in
set_option maxHeartbeats 2000000 in
theorem done_any (M : MaM) (B K : Nat) (w : World) (h : w.heap[K]? = some (.cells M.cells 64 (0, 0))) (hB : B ≤ K) : Calls Try.prog 48 #[.pointer (some ⟨K, 0, none⟩)] w (MasO B K M.rest [] w) := by
  have HR := hide' (atRest_any M w)
  have HBS : Hid (B ≤ w.heap.size) := by have := lt_heap h; show _ ≤ _; omega
  have HK := hide' h
  obtain ⟨c0, c1, c2, c3, c4, c5, c6, c7, c8, c9⟩ := cellM h
  obtain ⟨e0, e1, e2, e3, e4, e5, e6, e7, e8, e9⟩ := frozenP10 h
  clear h
  obtain ⟨no, ph, now, pt, want, timer, pat, tries, lim, gave⟩ := M
  unfold MaM.rest MaM.cells at HR
  unfold MaM.cells at HK
  simp only at HR HK c0 c1 c2 c3 c4 c5 c6 c7 c8 c9
  go_enter Try.func48, Try.ntmps48
  go_wp2_with fail
  refine HR.out.mono ?_
  rintro e w2 ⟨rfl, hb2⟩
  have HK2 := hide' ((hb2.block K (lt_heap HK.out)).trans HK.out)
  have HB2 : Hid (Below B w w2) := hb2.mono HBS.out
  clear c0 c1 c2 c3 c4 c5 c6 c7 c8 c9 e0 e1 e2 e3 e4 e5 e6 e7 e8 e9
  obtain ⟨c0, c1, c2, c3, c4, c5, c6, c7, c8, c9⟩ := cellsP10 HK2.out
  obtain ⟨e0, e1, e2, e3, e4, e5, e6, e7, e8, e9⟩ := frozenP10 HK2.out
  have HP := hide' (put10 HK2.out (.int .i64 no) (.int .i64 0) (.int .i64 0) (.int .i64 0) (.bool false) (.int .i64 0) (.int .i64 pat) (.int .i64 0) (.int .i64 lim) (.bool gave))
  have HF : Hid (MasO B K (⟨no, 0, 0, 0, false, 0, pat, 0, lim, gave⟩ : MaM) [] w (.returned (.slice none 0 0)) ((((((((((w2.setCell ⟨K, 0, none⟩ (.int .i64 no)).setCell ⟨K, 1, none⟩ (.int .i64 0)).setCell ⟨K, 2, none⟩ (.int .i64 0)).setCell ⟨K, 3, none⟩ (.int .i64 0)).setCell ⟨K, 4, none⟩ (.bool false)).setCell ⟨K, 5, none⟩ (.int .i64 0)).setCell ⟨K, 6, none⟩ (.int .i64 pat)).setCell ⟨K, 7, none⟩ (.int .i64 0)).setCell ⟨K, 8, none⟩ (.int .i64 lim)).setCell ⟨K, 9, none⟩ (.bool gave))) := MasO.none HP.out.1 (HB2.out.trans (HP.out.2.below hB (Nat.le_trans HBS.out HB2.out.size)))
  clear hb2 HP HK2 HB2 HK HR
  go_wp2
  go_ret
  exact HF.out
set_option maxRecDepth 100000 in
set_option maxHeartbeats 2000000 in
theorem giveUp_any (M : MaM) (B K : Nat) (w : World) (h : w.heap[K]? = some (.cells M.cells 64 (0, 0))) (hB : B ≤ K) : Calls Try.prog 50 #[.pointer (some ⟨K, 0, none⟩)] w (MasO B K M.giveUp [] w) := by
  obtain ⟨c0, c1, c2, c3, c4, c5, c6, c7, c8, c9⟩ := cellM h
  obtain ⟨e0, e1, e2, e3, e4, e5, e6, e7, e8, e9⟩ := frozenP10 h
  have HE := hide' (giv1 h)
  have HBS : Hid (B ≤ w.heap.size) := by have := lt_heap h; show _ ≤ _; omega
  clear h
  go_enter Try.func50, Try.ntmps50
  go_upto_region 2 with fail
  clear c0 c1 c2 c3 c4 c5 c6 c7 c8 c9 e0 e1 e2 e3 e4 e5 e6 e7 e8 e9
  obtain ⟨w3, hw3⟩ : ∃ x, x = (w.setCell ⟨K, 9, none⟩ (.bool true)) := ⟨_, rfl⟩
  rw [← hw3] at HE ⊢
  clear hw3
  have HR := hide' (atRest_any ⟨M.no, M.ph, M.now, M.pt, M.want, M.timer, M.pat, M.tries, M.lim, true⟩ w3)
  have HK := hide' HE.out.1
  have HB3 : Hid (Below B w w3) := HE.out.2.below hB HBS.out
  obtain ⟨c0, c1, c2, c3, c4, c5, c6, c7, c8, c9⟩ := cellM HE.out.1
  clear HE
  obtain ⟨no, ph, now, pt, want, timer, pat, tries, lim, gave⟩ := M
  unfold MaM.rest MaM.cells at HR
  unfold MaM.cells at HK
  simp only at HR HK c0 c1 c2 c3 c4 c5 c6 c7 c8 c9
  go_wp2_with fail
  refine HR.out.mono ?_
  rintro e w2 ⟨rfl, hb2⟩
  have HK2 := hide' ((hb2.block K (lt_heap HK.out)).trans HK.out)
  have HB2 : Hid (Below B w w2) := HB3.out.trans (hb2.mono (Nat.le_trans HBS.out HB3.out.size))
  clear c0 c1 c2 c3 c4 c5 c6 c7 c8 c9
  obtain ⟨c0, c1, c2, c3, c4, c5, c6, c7, c8, c9⟩ := cellsP10 HK2.out
  obtain ⟨e0, e1, e2, e3, e4, e5, e6, e7, e8, e9⟩ := frozenP10 HK2.out
  have HP := hide' (put10 HK2.out (.int .i64 no) (.int .i64 0) (.int .i64 0) (.int .i64 0) (.bool false) (.int .i64 0) (.int .i64 pat) (.int .i64 0) (.int .i64 lim) (.bool true))
  have HF : Hid (MasO B K (⟨no, 0, 0, 0, false, 0, pat, 0, lim, true⟩ : MaM) [] w (.returned (.slice none 0 0)) ((((((((((w2.setCell ⟨K, 0, none⟩ (.int .i64 no)).setCell ⟨K, 1, none⟩ (.int .i64 0)).setCell ⟨K, 2, none⟩ (.int .i64 0)).setCell ⟨K, 3, none⟩ (.int .i64 0)).setCell ⟨K, 4, none⟩ (.bool false)).setCell ⟨K, 5, none⟩ (.int .i64 0)).setCell ⟨K, 6, none⟩ (.int .i64 pat)).setCell ⟨K, 7, none⟩ (.int .i64 0)).setCell ⟨K, 8, none⟩ (.int .i64 lim)).setCell ⟨K, 9, none⟩ (.bool true))) := MasO.none HP.out.1 (HB2.out.trans (HP.out.2.below hB (Nat.le_trans HBS.out HB2.out.size)))
  clear hb2 HP HK2 HB2 HK HR HB3
  go_wp2
  go_ret
  exact HF.out
set_option maxRecDepth 100000 in
set_option maxHeartbeats 2000000 in
theorem refused_any (M : MaM) (B K : Nat) (w : World) (h : w.heap[K]? = some (.cells M.cells 64 (0, 0))) (hB : B ≤ K) : Calls Try.prog 49 #[.pointer (some ⟨K, 0, none⟩)] w (MasO B K (if M.ph = 3 then M.enter 1 else M.giveUp) (if M.ph = 3 then [(M.enter 1).msg] else []) w) := by
  obtain ⟨_, c1, _⟩ := cellM h
  have HA := hide' (enter_any M B K w h hB 1)
  have HG := hide' (giveUp_any M B K w h hB)
  clear h
  by_cases hp : M.ph = 3
  · rw [if_pos hp, if_pos hp]
    rw [hp] at c1
    go_enter Try.func49, Try.ntmps49
    go_wp2_with fail
    refine HA.out.mono ?_
    intro e w4 hO
    obtain ⟨v, rfl, q⟩ := hO
    have HF := hide' q
    clear q HA HG
    go_wp2
    go_ret
    exact ⟨v, rfl, HF.out⟩
  · rw [if_neg hp, if_neg hp]
    have hp2 : (M.ph == 3) = false := beq_eq_false_iff_ne.2 hp
    go_enter Try.func49, Try.ntmps49
    go_wp2_with fail
    refine HG.out.mono ?_
    intro e w4 hO
    obtain ⟨v, rfl, q⟩ := hO
    have HF := hide' q
    clear q HA HG
    go_wp2
    go_ret
    exact ⟨v, rfl, HF.out⟩
end Go.Proofs.Ytjhmendiefojoam
