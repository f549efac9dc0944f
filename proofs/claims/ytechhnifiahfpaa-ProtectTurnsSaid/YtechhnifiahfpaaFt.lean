/- To turn all currents, or to swap them, changes nothing. -/
import Derived.Test.YtechhnifiahfpaaFp
namespace Go.Proofs.Ytechhnifiahfpaa
open Go.RowKit Go.Shelf

theorem Try.info28 : (Try.prog.info? 28).map (fun i => (i.zero, i.size, i.bytes)) = some (some (.complex .f64 0 0), 1, 16) := by kernel_rfl
theorem tmod_within (a : Int) (f : Nat) (ha : 0 ≤ a) (hf : 0 < f) : ∃ p : Nat, a.tmod f = p ∧ p < f := by
  have h1 := Int.tmod_nonneg (f : Int) ha
  have h2 := Int.tmod_lt_of_pos a (show (0 : Int) < f by omega)
  exact ⟨(a.tmod f).toNat, (Int.toNat_of_nonneg h1).symm, by omega⟩
theorem picked_is (n : Int) (f : Nat) (h : I6 n) (hf : 0 < f) (hf1 : f ≤ 3000) :
    ∃ p : Nat, p < f ∧ ∀ w : World, Calls Try.prog 4 #[.int .i64 n, .int .i64 f] w fun e w' => e = .returned (.int .i64 (p : Int)) ∧ w' = w := by
  obtain ⟨h0, h1⟩ := h
  have hf0 : ((f : Int) == 0) = false := by simp; omega
  by_cases hn : n < 0
  · obtain ⟨p, hp, hlt⟩ := tmod_within (-(n + 1)) f (by omega) hf
    rw [Int.neg_tmod] at hp
    refine ⟨p, hlt, fun w => ?_⟩
    go_enter Try.func4, Try.ntmps4
    go_wp2
    go_ret
    exact ⟨by first | rfl | rw [hp], rfl⟩
  · obtain ⟨p, hp, hlt⟩ := tmod_within n f (by omega) hf
    refine ⟨p, hlt, fun w => ?_⟩
    go_enter Try.func4, Try.ntmps4
    go_wp2
    go_ret
    exact ⟨by first | rfl | rw [hp], rfl⟩
structure PairM where
  x : Int
  y : Int
def PairM.cells (p : PairM) : List Value := [.int .i64 p.x, .int .i64 p.y]
theorem run_negf (b : Nat) (z : World) : (Op.unary UnOp.neg (Value.float .f64 b)).run Try.prog z = .ok (.float .f64 (Op.negFloat .f64 b)) z := rfl
attribute [local go_sem] run_negf
theorem own_two (w : World) (c d : Nat × Nat) : (w.alloc (.cells #[cpx c, cpx d] 28)).ownsRow w.heap.size 28 1 (.slice (some ⟨w.heap.size, 0, none⟩) 2 2) 2 ([c, d].map cpx) :=
  ⟨rfl, .inr ⟨w.heap.size, 2, #[cpx c, cpx d], rfl, Nat.le_refl _, heap_alloc_new w _, Nat.le_refl _, by decide, rfl, rfl⟩⟩
theorem five_twelve : AllC [(4617315517961601024, 0), (0, 4622945017495814144)] [(5, 0), (0, 12)] :=
  AllC.cons (AllC.cons AllC.nil (x := 0) (y := 12) wh_nought (wh_of 12 (by decide)) (by decide) (by decide)) (x := 5) (y := 0) (wh_of 5 (by decide)) wh_nought (by decide) (by decide)
set_option maxRecDepth 100000 in
set_option maxHeartbeats 8000000 in
theorem ProtectTurns_any (raw : List PairM) (rv : Value) (sl pc : Int) (w : World) (hr : RowAt w rv raw.length 2 (raw.flatMap PairM.cells)) (hi : ∀ x ∈ raw, I6 x.x ∧ I6 x.y) (hsl : I6 sl) (hpc : I6 pc) :
    Calls Try.prog 3 #[rv, .int .i64 sl, .int .i64 pc] w fun e w' => e = .returned (.bool true) ∧ Below w.heap.size w w' := by
  obtain ⟨s, hs, hS⟩ := picked_is sl 1000 hsl (by decide) (by decide)
  obtain ⟨p, hp, hP⟩ := picked_is pc 101 hpc (by decide) (by decide)
  obtain ⟨i28, hi28, h280, h281, h282⟩ := info_parts Try.info28
  have HS := hide' hS
  have HP := hide' hP
  have HR := hide' hr
  have HI := hide' hi
  obtain ⟨ra, rc, rfl⟩ := rowAt_slice hr
  clear hS hP hr hi hsl hpc
  go_enter Try.func3, Try.ntmps3
  go_wp2_with fail
  refine (HS.out _).mono ?_
  rintro e wz ⟨rfl, hwz⟩
  rw [hwz]
  clear hwz
  go_wp2_with fail
  refine (HP.out _).mono ?_
  rintro e wz ⟨rfl, hwz⟩
  rw [hwz]
  clear hwz
  go_wp2_with fail
  go_loopw [9, 10, 11, 12] (fun lv tv bv iv wr => ∃ (k : Nat) (cs ts bs : List (Nat × Nat)) (zs tz bz : List (Int × Int)), iv = .int .i64 k ∧ k ≤ raw.length ∧ k ≤ 8 ∧ (cs.length = k ∧ ts.length = k ∧ bs.length = 2 * k) ∧ Hid (TR w wr lv tv bv cs ts bs) ∧ Hid (AllC cs zs ∧ AllC ts tz ∧ AllC bs bz) ∧ Hid (Turn zs tz bz)) (fun _ _ _ iv _ => 8 - (intOf iv).toNat)
  case atStart => exact ⟨0, [], [], [], [], [], [], rfl, Nat.zero_le _, Nat.zero_le _, ⟨rfl, rfl, rfl⟩, TR.start w w (Below.refl _ w), ⟨AllC.nil, AllC.nil, AllC.nil⟩, Turn.start⟩
  case round =>
    obtain ⟨k, cs, ts, bs, zs, tz, bz, rfl, hk, hk8, ⟨hcl, htl, hbl⟩, HT, HA, HZ⟩ := hrel
    by_cases hboth : k < raw.length ∧ k < 8
    · obtain ⟨hlt, hl8⟩ := hboth
      obtain ⟨rb, ro, rcc, ex, _, hcell⟩ := row_elem (f := PairM.cells) (fun _ => rfl) (HR.out.below HT.out.bel (Nat.le_refl _)) k hlt (by decide)
      cases ex
      have c1 := hcell 0 (.int .i64 raw[k].x) rfl
      have c2 := hcell 1 (.int .i64 raw[k].y) rfl
      have hI := HI.out raw[k] (List.getElem_mem hlt)
      obtain ⟨px, hpx, hPX⟩ := picked_is raw[k].x 2001 hI.1 (by decide) (by decide)
      obtain ⟨py, hpy, hPY⟩ := picked_is raw[k].y 2001 hI.2 (by decide) (by decide)
      have HPX := hide' hPX
      have HPY := hide' hPY
      obtain ⟨X, hX⟩ : ∃ X, X = raw[k].x := ⟨_, rfl⟩
      obtain ⟨Y, hY⟩ : ∃ Y, Y = raw[k].y := ⟨_, rfl⟩
      rw [← hX] at c1 HPX
      rw [← hY] at c2 HPY
      rw [Nat.add_zero] at c1
      have d1 : wr.drew.cell? ⟨rb, ro + k * 2, none⟩ = some (.int .i64 X) := c1
      have d2 : wr.drew.cell? ⟨rb, ro + k * 2 + 1, none⟩ = some (.int .i64 Y) := c2
      have HT1 := hide' (HT.out.down (Below.refl _ wr).drew)
      clear hcell hPX hPY hX hY hI HT
      go_wp2_with fail
      refine wp_region_tail (fun W => W.cell? ⟨rb, ro + k * 2, none⟩ = some (.int .i64 X) ∧ W.cell? ⟨rb, ro + k * 2 + 1, none⟩ = some (.int .i64 Y)) 17 (by kernel_rfl) ?_
      refine wpAnyD_takeAt 0 (some 37) (v := ?_) rfl (by kernel_rfl) (by kernel_rfl) (by kernel_rfl) (by kernel_rfl) (by kernel_rfl) (fun _ _ _ h => h) (by exact ⟨d1, d2⟩) (fun o hop => ?_) ?_
      rotate_left
      · injection hop with hop
        subst hop
        refine ⟨rfl, fun W hW => ?_⟩
        obtain ⟨s0, s1⟩ := hW
        go_simp
        all_goals first
        | rfl
        | rw [if_neg (by omega)]
        | exact IntWalk.i64_in _ (by omega)
      try simp only [Act.put, List.setIfInBounds_toArray, List.set_cons_zero, List.set_cons_succ]
      refine wpAnyD_takeAt 1 (some 38) (v := ?_) rfl (by kernel_rfl) (by kernel_rfl) (by kernel_rfl) (by kernel_rfl) (by kernel_rfl) (fun _ _ _ h => h) (by exact ⟨d1, d2⟩) (fun o hop => ?_) ?_
      rotate_left
      · injection hop with hop
        subst hop
        refine ⟨rfl, fun W hW => ?_⟩
        obtain ⟨s0, s1⟩ := hW
        go_simp
        all_goals first
        | rfl
        | rw [if_neg (by omega)]
        | exact IntWalk.i64_in _ (by omega)
      try simp only [Act.put, List.setIfInBounds_toArray, List.set_cons_zero, List.set_cons_succ]
      refine wpAnyD_takeAt 2 (some 39) (v := ?_) rfl (by kernel_rfl) (by kernel_rfl) (by kernel_rfl) (by kernel_rfl) (by kernel_rfl) (fun _ _ _ h => h) (by exact ⟨d1, d2⟩) (fun o hop => ?_) ?_
      rotate_left
      · injection hop with hop
        subst hop
        refine ⟨rfl, fun W hW => ?_⟩
        obtain ⟨s0, s1⟩ := hW
        go_simp
        all_goals first
        | rfl
        | rw [if_neg (by omega)]
        | exact IntWalk.i64_in _ (by omega)
      try simp only [Act.put, List.setIfInBounds_toArray, List.set_cons_zero, List.set_cons_succ]
      refine wpAnyD_takeAt 3 (some 40) (v := ?_) rfl (by kernel_rfl) (by kernel_rfl) (by kernel_rfl) (by kernel_rfl) (by kernel_rfl) (fun _ _ _ h => h) (by exact ⟨d1, d2⟩) (fun o hop => ?_) ?_
      rotate_left
      · injection hop with hop
        subst hop
        refine ⟨rfl, fun W hW => ?_⟩
        obtain ⟨s0, s1⟩ := hW
        go_simp
        all_goals first
        | rfl
        | rw [if_neg (by omega)]
        | exact IntWalk.i64_in _ (by omega)
      try simp only [Act.put, List.setIfInBounds_toArray, List.set_cons_zero, List.set_cons_succ]
      refine wpAnyD_takeAt 4 (some 41) (v := ?_) rfl (by kernel_rfl) (by kernel_rfl) (by kernel_rfl) (by kernel_rfl) (by kernel_rfl) (fun _ _ _ h => h) (by exact ⟨d1, d2⟩) (fun o hop => ?_) ?_
      rotate_left
      · injection hop with hop
        subst hop
        refine ⟨rfl, fun W hW => ?_⟩
        obtain ⟨s0, s1⟩ := hW
        go_simp
        all_goals first
        | rfl
        | rw [if_neg (by omega)]
        | exact IntWalk.i64_in _ (by omega)
      try simp only [Act.put, List.setIfInBounds_toArray, List.set_cons_zero, List.set_cons_succ]
      refine wpAnyD_takeAt 8 (some 45) (v := ?_) rfl (by kernel_rfl) (by kernel_rfl) (by kernel_rfl) (by kernel_rfl) (by kernel_rfl) (fun _ _ _ h => h) (by exact ⟨d1, d2⟩) (fun o hop => ?_) ?_
      rotate_left
      · injection hop with hop
        subst hop
        refine ⟨rfl, fun W hW => ?_⟩
        obtain ⟨s0, s1⟩ := hW
        go_simp
        all_goals first
        | rfl
        | rw [if_neg (by omega)]
        | exact IntWalk.i64_in _ (by omega)
      try simp only [Act.put, List.setIfInBounds_toArray, List.set_cons_zero, List.set_cons_succ]
      refine wpAnyD_takeAt 9 (some 46) (v := ?_) rfl (by kernel_rfl) (by kernel_rfl) (by kernel_rfl) (by kernel_rfl) (by kernel_rfl) (fun _ _ _ h => h) (by exact ⟨d1, d2⟩) (fun o hop => ?_) ?_
      rotate_left
      · injection hop with hop
        subst hop
        refine ⟨rfl, fun W hW => ?_⟩
        obtain ⟨s0, s1⟩ := hW
        go_simp
        all_goals first
        | rfl
        | rw [if_neg (by omega)]
        | exact IntWalk.i64_in _ (by omega)
      try simp only [Act.put, List.setIfInBounds_toArray, List.set_cons_zero, List.set_cons_succ]
      refine wpAnyD_takeAt 10 (some 47) (v := ?_) rfl (by kernel_rfl) (by kernel_rfl) (by kernel_rfl) (by kernel_rfl) (by kernel_rfl) (fun _ _ _ h => h) (by exact ⟨d1, d2⟩) (fun o hop => ?_) ?_
      rotate_left
      · injection hop with hop
        subst hop
        refine ⟨rfl, fun W hW => ?_⟩
        obtain ⟨s0, s1⟩ := hW
        go_simp
        all_goals first
        | rfl
        | rw [if_neg (by omega)]
        | exact IntWalk.i64_in _ (by omega)
      try simp only [Act.put, List.setIfInBounds_toArray, List.set_cons_zero, List.set_cons_succ]
      refine wpAnyD_takeAt 11 (some 48) (v := ?_) rfl (by kernel_rfl) (by kernel_rfl) (by kernel_rfl) (by kernel_rfl) (by kernel_rfl) (fun _ _ _ h => h) (by exact ⟨d1, d2⟩) (fun o hop => ?_) ?_
      rotate_left
      · injection hop with hop
        subst hop
        refine ⟨rfl, fun W hW => ?_⟩
        obtain ⟨s0, s1⟩ := hW
        go_simp
        all_goals first
        | rfl
        | rw [if_neg (by omega)]
        | exact IntWalk.i64_in _ (by omega)
      try simp only [Act.put, List.setIfInBounds_toArray, List.set_cons_zero, List.set_cons_succ]
      refine wpAnyD_takeAt 12 (some 49) (v := ?_) rfl (by kernel_rfl) (by kernel_rfl) (by kernel_rfl) (by kernel_rfl) (by kernel_rfl) (fun _ _ _ h => h) (by exact ⟨d1, d2⟩) (fun o hop => ?_) ?_
      rotate_left
      · injection hop with hop
        subst hop
        refine ⟨rfl, fun W hW => ?_⟩
        obtain ⟨s0, s1⟩ := hW
        go_simp
        all_goals first
        | rfl
        | rw [if_neg (by omega)]
        | exact IntWalk.i64_in _ (by omega)
      try simp only [Act.put, List.setIfInBounds_toArray, List.set_cons_zero, List.set_cons_succ]
      refine wpAnyT_one (i := 5) (by kernel_rfl) rfl rfl (fun K' hK => ?_)
      go_simp
      go_at_call 4
      refine (HPX.out _).mono ?_
      rintro e w' ⟨rfl, rfl⟩
      refine hK.out _ _ (fun _ => by exact ⟨d1, d2⟩) ?_
      clear hK K'
      refine wpAnyD_takeAt 6 (some 43) (v := .int .i64 ((px : Int) - 1000)) rfl (by kernel_rfl) (by kernel_rfl) (by kernel_rfl) (by kernel_rfl) (by kernel_rfl) (fun _ _ _ h => h) (by exact ⟨d1, d2⟩) (fun o hop => ?_) ?_
      · injection hop with hop
        subst hop
        refine ⟨rfl, fun W hW => ?_⟩
        obtain ⟨s0, s1⟩ := hW
        go_simp
        all_goals first
        | rfl
        | rw [if_neg (by omega)]
        | exact IntWalk.i64_in _ (by omega)
      try simp only [Act.put, List.setIfInBounds_toArray, List.set_cons_zero, List.set_cons_succ]
      refine wpAnyD_takeAt 7 (some 44) (v := .float .f64 (floatOfInt .f64 ((px : Int) - 1000))) rfl (by kernel_rfl) (by kernel_rfl) (by kernel_rfl) (by kernel_rfl) (by kernel_rfl) (fun _ _ _ h => h) (by exact ⟨d1, d2⟩) (fun o hop => ?_) ?_
      · injection hop with hop
        subst hop
        refine ⟨rfl, fun W hW => ?_⟩
        obtain ⟨s0, s1⟩ := hW
        go_simp
        all_goals first
        | rfl
        | rw [if_neg (by omega)]
        | exact IntWalk.i64_in _ (by omega)
      try simp only [Act.put, List.setIfInBounds_toArray, List.set_cons_zero, List.set_cons_succ]
      refine wpAnyT_one (i := 13) (by kernel_rfl) rfl rfl (fun K' hK => ?_)
      go_simp
      go_at_call 4
      refine (HPY.out _).mono ?_
      rintro e w' ⟨rfl, rfl⟩
      refine hK.out _ _ (fun _ => by exact ⟨d1, d2⟩) ?_
      clear hK K'
      refine wpAnyD_takeAt 14 (some 51) (v := .int .i64 ((py : Int) - 1000)) rfl (by kernel_rfl) (by kernel_rfl) (by kernel_rfl) (by kernel_rfl) (by kernel_rfl) (fun _ _ _ h => h) (by exact ⟨d1, d2⟩) (fun o hop => ?_) ?_
      · injection hop with hop
        subst hop
        refine ⟨rfl, fun W hW => ?_⟩
        obtain ⟨s0, s1⟩ := hW
        go_simp
        all_goals first
        | rfl
        | rw [if_neg (by omega)]
        | exact IntWalk.i64_in _ (by omega)
      try simp only [Act.put, List.setIfInBounds_toArray, List.set_cons_zero, List.set_cons_succ]
      refine wpAnyD_takeAt 15 (some 52) (v := .float .f64 (floatOfInt .f64 ((py : Int) - 1000))) rfl (by kernel_rfl) (by kernel_rfl) (by kernel_rfl) (by kernel_rfl) (by kernel_rfl) (fun _ _ _ h => h) (by exact ⟨d1, d2⟩) (fun o hop => ?_) ?_
      · injection hop with hop
        subst hop
        refine ⟨rfl, fun W hW => ?_⟩
        obtain ⟨s0, s1⟩ := hW
        go_simp
        all_goals first
        | rfl
        | rw [if_neg (by omega)]
        | exact IntWalk.i64_in _ (by omega)
      try simp only [Act.put, List.setIfInBounds_toArray, List.set_cons_zero, List.set_cons_succ]
      refine wpAnyT_one (i := 16) (by kernel_rfl) rfl rfl (fun K' hK => ?_)
      go_simp
      refine hK.out _ _ (fun _ => by exact ⟨d1, d2⟩) ?_
      clear hK K'
      refine wpAnyT_one (i := 17) (by kernel_rfl) rfl rfl (fun K' hK => ?_)
      go_simp
      refine hK.out _ _ (fun h => absurd rfl h) ?_
      clear hK K'
      refine wpAnyT_done (by kernel_rfl) ?_ _
      obtain ⟨wq, hwq⟩ : ∃ z, z = wr.drew := ⟨_, rfl⟩
      rw [← hwq] at HT1 ⊢
      clear hwq d1 d2 c1 c2 HPX HPY
      have wx : Wh (floatOfInt .f64 ((px : Int) - 1000)) ((px : Int) - 1000) := wh_of _ (by omega)
      have wy : Wh (floatOfInt .f64 ((py : Int) - 1000)) ((py : Int) - 1000) := wh_of _ (by omega)
      have HWX := hide' wx
      have HWY := hide' wy
      have HXB : Hid (((px : Int) - 1000).natAbs ≤ 32768 ∧ ((py : Int) - 1000).natAbs ≤ 32768) := by show _ ∧ _; omega
      obtain ⟨fx, hfx⟩ : ∃ z, z = floatOfInt .f64 ((px : Int) - 1000) := ⟨_, rfl⟩
      obtain ⟨fy, hfy⟩ : ∃ z, z = floatOfInt .f64 ((py : Int) - 1000) := ⟨_, rfl⟩
      rw [← hfx] at HWX ⊢
      rw [← hfy] at HWY ⊢
      obtain ⟨zx, hzx⟩ : ∃ z, z = (px : Int) - 1000 := ⟨_, rfl⟩
      obtain ⟨zy, hzy⟩ : ∃ z, z = (py : Int) - 1000 := ⟨_, rfl⟩
      rw [← hzx] at HWX HXB
      rw [← hzy] at HWY HXB
      clear wx wy hfx hfy hzx hzy
      go_wp2_with (at_builtin; refine wpList_append_own_at _ rfl _ _ 24 rfl w.heap.size 28 i28 (.complex .f64 0 0) 1 16 Try.underlying24 hi28 h280 h281 h282 rfl (by decide) _ _ _ rfl (own_below HT1.out.ol (below_al _ _) (Nat.le_refl _)) ⟨wq.heap.size, 0, none⟩ 1 1 [.complex .f64 fx fy] rfl rfl (cell_one_new _ _ _) (one_cell rfl) (by unfold maxLen; omega) (by omega) (Nat.le_trans HT1.out.bel.size (below_al _ _).size) ?_; intro lv1 w8 hown8 hgrow8 _ hat8; refine Still.go ?_)
      unfold Still
      have HT2 : Hid (TR w w8 lv1 u10 u11 (cs ++ [(fx, fy)]) ts bs) := (HT1.out.down (below_al _ _)).l (own_snoc (f := cpx) (x := (fx, fy)) hown8) hgrow8 hat8
      clear hown8 hgrow8 hat8 HT1
      go_wp2_with (at_builtin; refine wpList_append_any _ rfl _ _ 24 rfl w8.heap.size 28 i28 _ 1 16 Try.underlying24 hi28 h280 h281 h282 rfl (by decide) _ _ _ rfl (own_lit w8 (Op.negFloat .f64 fy, fx)) _ _ _ rfl (rowAt_of_own (own_below HT2.out.ot (below_al _ _) (Nat.le_refl _))) (cpx_one ts) (by unfold maxLen; omega) (by omega) (below_al _ _).size ?_; intro tv1 w9 hown9 hgrow9; refine Still.go ?_)
      unfold Still
      have HT3 : Hid (TR w w9 lv1 tv1 u11 (cs ++ [(fx, fy)]) ((Op.negFloat .f64 fy, fx) :: ts) bs) := HT2.out.t (below_al _ _) (by rw [Nat.add_comm 1] at hown9; exact hown9) hgrow9 (fun k hk => by cases hk; exact Nat.le_refl _)
      clear hown9 hgrow9 HT2
      go_wp2_with (at_builtin; refine wpList_append_own_at _ rfl _ _ 24 rfl w.heap.size 28 i28 (.complex .f64 0 0) 1 16 Try.underlying24 hi28 h280 h281 h282 rfl (by decide) _ _ _ rfl (own_below HT3.out.ob (below_al _ _) (Nat.le_refl _)) ⟨w9.heap.size, 0, none⟩ 2 2 ([(fx, fy), (Op.negFloat .f64 fx, Op.negFloat .f64 fy)].map cpx) rfl rfl (cell_news _ _ _) (cpx_one _) (by unfold maxLen; omega) (by omega) (Nat.le_trans HT3.out.bel.size (below_al _ _).size) ?_; intro bv1 wA hownA hgrowA _ hatA; refine Still.go ?_)
      unfold Still
      have HT4 : Hid (TR w wA lv1 tv1 bv1 (cs ++ [(fx, fy)]) ((Op.negFloat .f64 fy, fx) :: ts) ((bs ++ [(fx, fy)]) ++ [(Op.negFloat .f64 fx, Op.negFloat .f64 fy)])) := (HT3.out.down (below_al _ _)).b (by
        rw [List.append_assoc, List.map_append, List.length_append]
        exact hownA) hgrowA hatA
      clear hownA hgrowA hatA HT3
      have HA2 : Hid (AllC (cs ++ [(fx, fy)]) (zs ++ [(zx, zy)]) ∧ AllC ((Op.negFloat .f64 fy, fx) :: ts) ((-zy, zx) :: tz) ∧ AllC ((bs ++ [(fx, fy)]) ++ [(Op.negFloat .f64 fx, Op.negFloat .f64 fy)]) ((bz ++ [(zx, zy)]) ++ [(-zx, -zy)])) :=
        ⟨HA.out.1.snoc HWX.out HWY.out HXB.out.1 HXB.out.2, HA.out.2.1.cons (wh_neg HWY.out) HWX.out (by have := HXB.out.2; omega) HXB.out.1, (HA.out.2.2.snoc HWX.out HWY.out HXB.out.1 HXB.out.2).snoc (wh_neg HWX.out) (wh_neg HWY.out) (by have := HXB.out.1; omega) (by have := HXB.out.2; omega)⟩
      have HZ2 : Hid (Turn (zs ++ [(zx, zy)]) ((-zy, zx) :: tz) ((bz ++ [(zx, zy)]) ++ [(-zx, -zy)])) := HZ.out.next zx zy
      clear HA HZ HWX HWY HXB
      go_wp2
      go_roundw
      case rel => exact ⟨k + 1, _, _, _, _, _, _, by go_num, by omega, by omega, ⟨by simp [hcl], by simp [htl], by simp [hbl]; omega⟩, HT4, HA2, HZ2⟩
      case measure => simp [intOf]; omega
    · have hcase : ¬ k < raw.length ∨ (k < raw.length ∧ ¬ k < 8) := by omega
      clear hboth
      have HD1 := hide' (Differs_any cs zs u9 s p wr (rowAt_of_own HT.out.ol) (by omega) HA.out.1 (by omega) (by omega) (by omega) (by omega))
      have HD2 := hide' (Differs_any ts tz u10 s p wr (rowAt_of_own HT.out.ot) (by omega) HA.out.2.1 (by omega) (by omega) (by omega) (by omega))
      have HD3 := hide' (Differs_any bs bz u11 s p wr (rowAt_of_own HT.out.ob) (by omega) HA.out.2.2 (by omega) (by omega) (by omega) (by omega))
      have HD4 := hide' (Differs_any [(4617315517961601024, 0), (0, 4622945017495814144)] [(5, 0), (0, 12)] _ 12 100 _ (rowAt_of_own (own_two wr (4617315517961601024, 0) (0, 4622945017495814144))) (by decide) five_twelve (by decide) (by decide) (by decide) (by decide))
      rw [HZ.out.same] at HD2
      rw [HZ.out.none (by omega)] at HD3
      rw [show diffB [(5, 0), (0, 12)] 12 100 = true by decide] at HD4
      have HBE : Hid (Below w.heap.size w (wr.alloc (.cells #[cpx (4617315517961601024, 0), cpx (0, 4622945017495814144)] 28))) := HT.out.bel.alloc HT.out.bel.size _
      obtain ⟨q, hq⟩ : ∃ q, q = diffB zs s p := ⟨_, rfl⟩
      rw [← hq] at HD1 HD2
      simp only [cpx] at HD4 HBE
      clear hq HT HA HZ
      rcases hcase with hno | ⟨hno, hno8⟩
      all_goals
        cases q
        all_goals
          go_wp2_with fail
          refine HD1.out.mono ?_
          rintro e wz ⟨rfl, hwz⟩
          rw [hwz]
          clear hwz
          go_wp2_with fail
          refine HD2.out.mono ?_
          rintro e wz ⟨rfl, hwz⟩
          rw [hwz]
          clear hwz
          go_wp2_with fail
          refine HD3.out.mono ?_
          rintro e wz ⟨rfl, hwz⟩
          rw [hwz]
          clear hwz
          go_wp2_with fail
          refine HD4.out.mono ?_
          rintro e wz ⟨rfl, hwz⟩
          rw [hwz]
          clear hwz
          go_wp2
          go_ret
          exact ⟨rfl, HBE.out⟩
end Go.Proofs.Ytechhnifiahfpaa
