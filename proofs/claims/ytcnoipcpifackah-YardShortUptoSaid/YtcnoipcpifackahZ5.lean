/- What is live and earthed, in the document's answer. -/
import Derived.Test.YtcnoipcpifackahZ4
import Derived.Test.YtcnoipcpifackahY8
namespace Go.Proofs.Ytcnoipcpifackah
open Go.RowKit Go.Shelf

set_option maxRecDepth 100000 in
set_option maxHeartbeats 2000000 in
theorem LiveIn_any (y : YardM) (hm : MayY y) (af ad as' : Option Addr) (cf cd cs : Nat) (w : World) (hy : YardAt w af ad as' cf cd cs y) :
    Calls Try.prog 34 #[.agg #[.int .i64 y.points, .slice af y.fed.length cf, .slice ad y.drawn.length cd, .slice as' y.devs.length cs]] w fun e w' => ∃ T c, e = .returned (.slice (some ⟨T, 0, none⟩) y.n c) ∧ w'.ownsRow w.heap.size 4 1 (.slice (some ⟨T, 0, none⟩) y.n c) y.n (y.live.map Value.bool) ∧ Below w.heap.size w w' := by
  obtain ⟨hn1, hn10, hpn⟩ := hm.n_le
  have hd10 := hm.d
  have HM := hide' hm
  have HY := hide' hy
  have HTO : Hid (∀ w', Below w.heap.size w w' → ∀ (l : List Bool) (v : Value), RowAt w' v y.n 1 (l.map Value.bool) → l.length = y.n → Calls Try.prog 53 #[.agg #[.int .i64 y.points, .slice af y.fed.length cf, .slice ad y.drawn.length cd, .slice as' y.devs.length cs], v] w' fun e w2 => ∃ T c, e = .returned (.slice (some ⟨T, 0, none⟩) y.n c) ∧ w2.ownsRow w'.heap.size 4 1 (.slice (some ⟨T, 0, none⟩) y.n c) y.n ((togL y.n y.devs l).map Value.bool) ∧ Below w'.heap.size w' w2) := fun w' hb l v hr hl => together_any y hm l af ad as' cf cd cs v w' (hy.below hb (Nat.le_refl _)) hr hl
  have HTH : Hid (∀ w', Below w.heap.size w w' → Calls Try.prog 54 #[.agg #[.int .i64 y.points, .slice af y.fed.length cf, .slice ad y.drawn.length cd, .slice as' y.devs.length cs], .slice af y.fed.length cf] w' fun e w2 => ∃ T, e = .returned (.slice (some ⟨T, 0, none⟩) y.n y.n) ∧ w2.ownsRow w'.heap.size 4 1 (.slice (some ⟨T, 0, none⟩) y.n y.n) y.n ((theseL y.n y.fed).map Value.bool) ∧ Below w'.heap.size w' w2) := fun w' hb => by
    rw [hpn]
    exact these_any y.fed y.n af ad as' _ cf _ cd _ cs _ w' (hy.f.below hb (Nat.le_refl _)) (fun q hq => by have := hm.f.at hq; omega) (by omega) (rising_len hm.f (by omega))
  have HEQ : Hid (togL y.n y.devs (theseL y.n y.fed) = y.live) := tog_with hm.ends (fun q hq => by have := hm.f.at hq; omega)
  rw [hpn] at HTO HTH ⊢
  obtain ⟨n, hn⟩ : ∃ n, n = y.n := ⟨_, rfl⟩
  obtain ⟨lf, hlf⟩ : ∃ l, l = y.fed.length := ⟨_, rfl⟩
  obtain ⟨ld, hld⟩ : ∃ l, l = y.drawn.length := ⟨_, rfl⟩
  obtain ⟨ls, hls⟩ : ∃ l, l = y.devs.length := ⟨_, rfl⟩
  have HLS := hide' hls
  have HNN := hide' hn
  have HPN := hide' hpn
  rw [← hn, ← hlf, ← hld, ← hls] at HTO HTH ⊢
  rw [← hn] at HEQ
  clear hy hm hn hlf hld hls hpn
  go_enter Try.func34, Try.ntmps34
  go_upto_region 1 with fail
  have HQ1 := hide' (alloc_new w (.cells #[.int .i64 n, .slice af lf cf, .slice ad ld cd, .slice as' ls cs] 25))
  have HB1 := hide' (below_al w (.cells #[.int .i64 n, .slice af lf cf, .slice ad ld cd, .slice as' ls cs] 25))
  obtain ⟨w1, hw1⟩ : ∃ x, x = w.alloc (.cells #[.int .i64 n, .slice af lf cf, .slice ad ld cd, .slice as' ls cs] 25) := ⟨_, rfl⟩
  obtain ⟨Y, hY⟩ : ∃ Y, Y = w.heap.size := ⟨_, rfl⟩
  rw [← hw1] at HQ1 HB1 ⊢
  rw [← hY] at HQ1
  rw [show (Value.pointer (some { block := w.heap.size, off := 0 })) = Value.pointer (some { block := Y, off := 0 }) by rw [hY]]
  clear hw1 hY
  have p0 : w1.cell? ⟨Y, 0, none⟩ = some (.int .i64 n) := (cells_at HQ1.out 0).trans rfl
  have p1 : w1.cell? ⟨Y, 1, none⟩ = some (.slice af lf cf) := (cells_at HQ1.out 1).trans rfl
  have p2 : w1.cell? ⟨Y, 2, none⟩ = some (.slice ad ld cd) := (cells_at HQ1.out 2).trans rfl
  have p3 : w1.cell? ⟨Y, 3, none⟩ = some (.slice as' ls cs) := (cells_at HQ1.out 3).trans rfl
  go_wp2_with fail
  refine wp_region_tail (fun W => W.cell? ⟨Y, 0, none⟩ = some (.int .i64 n) ∧ W.cell? ⟨Y, 1, none⟩ = some (.slice af lf cf) ∧ W.cell? ⟨Y, 2, none⟩ = some (.slice ad ld cd) ∧ W.cell? ⟨Y, 3, none⟩ = some (.slice as' ls cs)) 6 (by kernel_rfl) ?_
  refine wpAnyD_takeAt 0 (some 3) (v := ?_) rfl (by kernel_rfl) (by kernel_rfl) (by kernel_rfl) (by kernel_rfl) (by kernel_rfl) (fun _ _ _ h => h) (by exact ⟨p0, p1, p2, p3⟩) (fun o hop => ?_) ?_
  rotate_left
  · injection hop with hop
    subst hop
    refine ⟨rfl, fun W hW => ?_⟩
    obtain ⟨s0, s1, s2, s3⟩ := hW
    go_simp
    first
    | rfl
    | rw [if_neg (by omega)]
  try simp only [Act.put, List.setIfInBounds_toArray, List.set_cons_zero, List.set_cons_succ]
  refine wpAnyD_takeAt 1 (some 4) (v := ?_) rfl (by kernel_rfl) (by kernel_rfl) (by kernel_rfl) (by kernel_rfl) (by kernel_rfl) (fun _ _ _ h => h) (by exact ⟨p0, p1, p2, p3⟩) (fun o hop => ?_) ?_
  rotate_left
  · injection hop with hop
    subst hop
    refine ⟨rfl, fun W hW => ?_⟩
    obtain ⟨s0, s1, s2, s3⟩ := hW
    go_simp
    first
    | rfl
    | rw [if_neg (by omega)]
  try simp only [Act.put, List.setIfInBounds_toArray, List.set_cons_zero, List.set_cons_succ]
  refine wpAnyD_takeAt 2 (some 5) (v := ?_) rfl (by kernel_rfl) (by kernel_rfl) (by kernel_rfl) (by kernel_rfl) (by kernel_rfl) (fun _ _ _ h => h) (by exact ⟨p0, p1, p2, p3⟩) (fun o hop => ?_) ?_
  rotate_left
  · injection hop with hop
    subst hop
    refine ⟨rfl, fun W hW => ?_⟩
    obtain ⟨s0, s1, s2, s3⟩ := hW
    go_simp
    first
    | rfl
    | rw [if_neg (by omega)]
  try simp only [Act.put, List.setIfInBounds_toArray, List.set_cons_zero, List.set_cons_succ]
  refine wpAnyD_takeAt 3 (some 6) (v := ?_) rfl (by kernel_rfl) (by kernel_rfl) (by kernel_rfl) (by kernel_rfl) (by kernel_rfl) (fun _ _ _ h => h) (by exact ⟨p0, p1, p2, p3⟩) (fun o hop => ?_) ?_
  rotate_left
  · injection hop with hop
    subst hop
    refine ⟨rfl, fun W hW => ?_⟩
    obtain ⟨s0, s1, s2, s3⟩ := hW
    go_simp
    first
    | rfl
    | rw [if_neg (by omega)]
  try simp only [Act.put, List.setIfInBounds_toArray, List.set_cons_zero, List.set_cons_succ]
  refine wpAnyT_one (i := 4) (by kernel_rfl) rfl rfl (fun K' hK => ?_)
  go_simp
  go_at_call 54
  refine (HTH.out w1.drew HB1.out.drew).mono ?_
  rintro e w2 ⟨T, rfl, hown, hb2⟩
  have HB2 : Hid (Below w.heap.size w w2) := HB1.out.drew.trans (hb2.mono HB1.out.size)
  have HQ2 := hide' ((((Below.refl w1.heap.size w1).drew.trans hb2).block Y (Array.getElem?_eq_some_iff.1 HQ1.out).1).trans HQ1.out)
  have HOW := hide' hown
  have q0 : w2.cell? ⟨Y, 0, none⟩ = some (.int .i64 n) := (cells_at HQ2.out 0).trans rfl
  have q1 : w2.cell? ⟨Y, 1, none⟩ = some (.slice af lf cf) := (cells_at HQ2.out 1).trans rfl
  have q2 : w2.cell? ⟨Y, 2, none⟩ = some (.slice ad ld cd) := (cells_at HQ2.out 2).trans rfl
  have q3 : w2.cell? ⟨Y, 3, none⟩ = some (.slice as' ls cs) := (cells_at HQ2.out 3).trans rfl
  refine hK.out _ _ (fun _ => by exact ⟨q0, q1, q2, q3⟩) ?_
  clear hK K' p0 p1 p2 p3 hown hb2
  refine wpAnyT_one (i := 5) (by kernel_rfl) rfl rfl (fun K' hK => ?_)
  go_simp
  go_at_call 53
  refine (HTO.out w2 HB2.out (theseL n y.fed) _ (rowAt_of_own HOW.out) (theseL_len _ _)).mono ?_
  rintro e w3 ⟨T2, c2, rfl, hown, hb3⟩
  rw [HEQ.out] at hown
  have HOW3 := hide' (own_base hown HB2.out.size)
  have HB3 : Hid (Below w.heap.size w w3) := HB2.out.trans (hb3.mono HB2.out.size)
  have HQ3 := hide' ((hb3.block Y (Array.getElem?_eq_some_iff.1 HQ2.out).1).trans HQ2.out)
  have r0 : w3.cell? ⟨Y, 0, none⟩ = some (.int .i64 n) := (cells_at HQ3.out 0).trans rfl
  have r1 : w3.cell? ⟨Y, 1, none⟩ = some (.slice af lf cf) := (cells_at HQ3.out 1).trans rfl
  have r2 : w3.cell? ⟨Y, 2, none⟩ = some (.slice ad ld cd) := (cells_at HQ3.out 2).trans rfl
  have r3 : w3.cell? ⟨Y, 3, none⟩ = some (.slice as' ls cs) := (cells_at HQ3.out 3).trans rfl
  refine hK.out _ _ (fun _ => by exact ⟨r0, r1, r2, r3⟩) ?_
  clear hK K' q0 q1 q2 q3 hown hb3
  refine wpAnyT_one (i := 6) (by kernel_rfl) rfl rfl (fun K' hK => ?_)
  go_simp
  refine hK.out _ _ (fun h => absurd rfl h) ?_
  clear hK K' r0 r1 r2 r3
  refine wpAnyT_done (by kernel_rfl) ?_ _
  go_wp2
  go_ret
  exact ⟨T2, c2, rfl, HOW3.out, HB3.out⟩
theorem these_snoc {n : Nat} (fs : List Int) (q : Int) : theseL n (fs ++ [q]) = (theseL n fs).set q.toNat true := by
  unfold theseL
  rw [List.foldl_append]
  rfl
set_option maxRecDepth 100000 in
set_option maxHeartbeats 2000000 in
theorem EarthedIn_any (y : YardM) (hm : MayY y) (af ad as' : Option Addr) (cf cd cs : Nat) (w : World) (hy : YardAt w af ad as' cf cd cs y) :
    Calls Try.prog 35 #[.agg #[.int .i64 y.points, .slice af y.fed.length cf, .slice ad y.drawn.length cd, .slice as' y.devs.length cs]] w fun e w' => ∃ T c, e = .returned (.slice (some ⟨T, 0, none⟩) y.n c) ∧ w'.ownsRow w.heap.size 4 1 (.slice (some ⟨T, 0, none⟩) y.n c) y.n (y.earthed.map Value.bool) ∧ Below w.heap.size w w' := by
  obtain ⟨i4, hi4, h40, h41, h42⟩ := info_parts Try.info4
  obtain ⟨hn1, hn10, hpn⟩ := hm.n_le
  have hd10 := hm.d
  have HM := hide' hm
  have HY := hide' hy
  have HTO : Hid (∀ w', Below w.heap.size w w' → ∀ (l : List Bool) (v : Value), RowAt w' v y.n 1 (l.map Value.bool) → l.length = y.n → Calls Try.prog 53 #[.agg #[.int .i64 y.points, .slice af y.fed.length cf, .slice ad y.drawn.length cd, .slice as' y.devs.length cs], v] w' fun e w2 => ∃ T c, e = .returned (.slice (some ⟨T, 0, none⟩) y.n c) ∧ w2.ownsRow w'.heap.size 4 1 (.slice (some ⟨T, 0, none⟩) y.n c) y.n ((togL y.n y.devs l).map Value.bool) ∧ Below w'.heap.size w' w2) := fun w' hb l v hr hl => together_any y hm l af ad as' cf cd cs v w' (hy.below hb (Nat.le_refl _)) hr hl
  have HEQ : Hid (togL y.n y.devs (theseL y.n (earthsL y.devs)) = y.earthed) := tog_with hm.ends (fun q hq => by have := hm.earths hq; omega)
  have HROW : Hid (RowAt w (.slice as' y.devs.length cs) y.devs.length 4 (y.devs.flatMap DevM.cells)) := hy.s
  rw [hpn] at HTO ⊢
  obtain ⟨n, hn⟩ : ∃ n, n = y.n := ⟨_, rfl⟩
  obtain ⟨lf, hlf⟩ : ∃ l, l = y.fed.length := ⟨_, rfl⟩
  obtain ⟨ld, hld⟩ : ∃ l, l = y.drawn.length := ⟨_, rfl⟩
  obtain ⟨ls, hls⟩ : ∃ l, l = y.devs.length := ⟨_, rfl⟩
  have HLS := hide' hls
  have HNN := hide' hn
  have HPN := hide' hpn
  rw [← hn, ← hlf, ← hld, ← hls] at HTO ⊢
  rw [← hls] at HROW hd10
  rw [← hn] at HEQ hn1 hn10
  clear hy hm hn hlf hld hls hpn
  go_enter Try.func35, Try.ntmps35
  go_upto_region 1 with fail
  have HQ1 := hide' (alloc_new w (.cells #[.int .i64 n, .slice af lf cf, .slice ad ld cd, .slice as' ls cs] 25))
  have HB1 := hide' (below_al w (.cells #[.int .i64 n, .slice af lf cf, .slice ad ld cd, .slice as' ls cs] 25))
  obtain ⟨w1, hw1⟩ : ∃ x, x = w.alloc (.cells #[.int .i64 n, .slice af lf cf, .slice ad ld cd, .slice as' ls cs] 25) := ⟨_, rfl⟩
  obtain ⟨Y, hY⟩ : ∃ Y, Y = w.heap.size := ⟨_, rfl⟩
  rw [← hw1] at HQ1 HB1 ⊢
  rw [← hY] at HQ1
  rw [show (Value.pointer (some { block := w.heap.size, off := 0 })) = Value.pointer (some { block := Y, off := 0 }) by rw [hY]]
  clear hw1 hY
  have b0 : w1.cell? ⟨Y, 0, none⟩ = some (.int .i64 n) := (cells_at HQ1.out 0).trans rfl
  go_wp2_with (at_make; refine wpList_make_full _ rfl _ _ 32 rfl w1.heap.size 4 i4 (.bool false) 1 Try.underlying32 hi4 h40 h41 .i64 .i64 _ _ n rfl rfl rfl rfl (by rw [h42]; omega) (by unfold maxLen; omega) (Nat.le_refl _) ?_; intro w2 hown hgr; refine Still.go ?_)
  unfold Still
  have hb2 : Below w1.heap.size w1 w2 := (Below.refl _ w1).grown hgr (Nat.le_refl _) (fun k e => by cases e)
  have HST0 : Hid (VSt w w2 Y w1.heap.size #[.int .i64 n, .slice af lf cf, .slice ad ld cd, .slice as' ls cs] (theseL n (earthsL (y.devs.take 0)))) := by
    have h1 := row_cells hown
    rw [made_bool] at h1
    exact ⟨(hb2.block Y (Array.getElem?_eq_some_iff.1 HQ1.out).1).trans HQ1.out, by show _ = some (Obj.cells ((List.replicate n false).map Value.bool).toArray 4 (0, 0)); rw [List.map_replicate]; exact h1, HB1.out.size, HB1.out.trans (hb2.mono HB1.out.size)⟩
  obtain ⟨T, hT⟩ : ∃ T, T = w1.heap.size := ⟨_, rfl⟩
  rw [← hT] at HST0 ⊢
  clear hown hgr hb2 hT HQ1 HB1 b0
  go_wp2_with fail
  go_loopw [4] (fun i wr => ∃ (k : Nat), i = .int .i64 k ∧ k ≤ ls ∧ Hid (VSt w wr Y T #[.int .i64 n, .slice af lf cf, .slice ad ld cd, .slice as' ls cs] (theseL n (earthsL (y.devs.take k))))) (fun i _ => ls - (intOf i).toNat)
  case atStart => exact ⟨0, rfl, Nat.zero_le _, HST0⟩
  case round =>
    clear HST0
    obtain ⟨k, rfl, hk, HST⟩ := hrel
    have y3 : wr.cell? ⟨Y, 3, none⟩ = some (.slice as' ls cs) := (cells_at HST.out.hB 3).trans rfl
    by_cases hlt : k < ls
    · obtain ⟨bt, ot, ct', ex, hbt, hct⟩ := row_elem (f := DevM.cells) (xs := y.devs) (fun _ => rfl) HROW.out k (by rw [← HLS.out]; exact hlt) (by decide)
      cases ex
      have hkl : k < y.devs.length := by rw [← HLS.out]; exact hlt
      obtain ⟨u, hu⟩ : ∃ u, u = y.devs[k]'hkl := ⟨_, rfl⟩
      rw [← hu] at hct
      have HK : Hid (y.devs[k]? = some u) := by show _ = _; rw [hu]; exact List.getElem?_eq_getElem hkl
      have HOK : Hid (DevOk y.points u) := HM.out.o u (by rw [hu]; exact List.getElem_mem hkl)
      have d0 := up_cell HST.out.bel (hct 0 _ rfl)
      have d1 := up_cell HST.out.bel (hct 1 _ rfl)
      have d3 := up_cell HST.out.bel (hct 3 _ rfl)
      rw [Nat.add_zero] at d0
      have HSN := hide' (earths_snoc HK.out)
      obtain ⟨x0, x1, x2, x3⟩ := u
      dsimp only at d0 d1 d3 HSN
      clear hct hu hbt hkl
      by_cases h3 : x0 = 3
      · subst h3
        cases x3 with
        | false =>
          have HF : Hid (VSt w wr Y T #[.int .i64 n, .slice af lf cf, .slice ad ld cd, .slice (some ⟨bt, ot, none⟩) ls cs] (theseL n (earthsL (y.devs.take (k + 1))))) := by show VSt _ _ _ _ _ _; rw [HSN.out]; simpa using HST.out
          clear HST
          go_wp2
          go_roundw
          case rel => exact ⟨k + 1, by go_num, by omega, HF⟩
          case measure => simp [intOf]; omega
        | true =>
          obtain ⟨a, rfl, ha⟩ : ∃ a : Nat, x1 = (a : Int) ∧ a < n := by
            have h5 := HPN.out
            have h6 := HNN.out
            rcases HOK.out with ⟨h1 | h1, _⟩ | ⟨_, h1, _⟩
            · dsimp only at h1; omega
            · dsimp only at h1; omega
            · dsimp only at h1
              exact ⟨x1.toNat, by omega, by omega⟩
          have g0 := bools_cell (m := a) HST.out.hT (by rw [theseL_len]; exact ha)
          have g1 : wr.frozen? ⟨T, a, none⟩ = false := frozen_no HST.out.hT _
          have HF : Hid (VSt w (wr.setCell ⟨T, a, none⟩ (.bool true)) Y T #[.int .i64 n, .slice af lf cf, .slice ad ld cd, .slice (some ⟨bt, ot, none⟩) ls cs] (theseL n (earthsL (y.devs.take (k + 1))))) := by
            have h1 := HST.out.set (m := a) true
            rw [HSN.out]
            simp only [Bool.true_and, beq_self_eq_true, if_true]
            rw [these_snoc, Int.toNat_natCast]
            exact h1
          clear HST
          go_wp2
          go_roundw
          case rel => exact ⟨k + 1, by go_num, by omega, HF⟩
          case measure => simp [intOf]; omega
      · have e3 : (x0 == 3) = false := by simp [h3]
        have HF : Hid (VSt w wr Y T #[.int .i64 n, .slice af lf cf, .slice ad ld cd, .slice (some ⟨bt, ot, none⟩) ls cs] (theseL n (earthsL (y.devs.take (k + 1))))) := by show VSt _ _ _ _ _ _; rw [HSN.out, e3]; simpa using HST.out
        clear HST
        go_wp2
        go_roundw
        case rel => exact ⟨k + 1, by go_num, by omega, HF⟩
        case measure => simp [intOf]; omega
    · have HOW : Hid (wr.ownsRow w.heap.size 4 1 (.slice (some ⟨T, 0, none⟩) n n) n ((theseL n (earthsL y.devs)).map Value.bool)) := by
        have h1 := HST.out.hT
        rw [List.take_of_length_le (by have := HLS.out; omega)] at h1
        exact bools_own h1 HST.out.sT (theseL_len _ _) (by omega)
      have HT1 := hide' (HTO.out wr HST.out.bel (theseL n (earthsL y.devs)) _ (rowAt_of_own HOW.out) (theseL_len _ _))
      have z0 : wr.cell? ⟨Y, 0, none⟩ = some (.int .i64 n) := (cells_at HST.out.hB 0).trans rfl
      have z1 : wr.cell? ⟨Y, 1, none⟩ = some (.slice af lf cf) := (cells_at HST.out.hB 1).trans rfl
      have z2 : wr.cell? ⟨Y, 2, none⟩ = some (.slice ad ld cd) := (cells_at HST.out.hB 2).trans rfl
      have z3 : wr.cell? ⟨Y, 3, none⟩ = some (.slice as' ls cs) := (cells_at HST.out.hB 3).trans rfl
      go_wp2_with fail
      refine HT1.out.mono ?_
      rintro e w3 ⟨T2, c2, rfl, hown, hb3⟩
      rw [HEQ.out] at hown
      have HOW3 := hide' (own_base hown HST.out.bel.size)
      have HB3 : Hid (Below w.heap.size w w3) := HST.out.bel.trans (hb3.mono HST.out.bel.size)
      clear hown hb3 HT1 HST z0 z1 z2 z3
      go_wp2
      go_ret
      exact ⟨T2, c2, rfl, HOW3.out, HB3.out⟩
end Go.Proofs.Ytcnoipcpifackah
