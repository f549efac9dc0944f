/- The program's feeds. -/
import Derived.Test.YtakcpemboeekfadGreatDoorFd2
namespace Go.Proofs.YtakcpemboeekfadGreatDoor.Bar
open Go.RowKit Go.Shelf Doc

set_option maxRecDepth 100000 in
set_option maxHeartbeats 8000000 in
theorem Feeds_any (N : NetM) (B1 : Nat) (b l g d t pv : Value) (plan : List Int) (mx : Int) (w : World) (hsm : SmallM N) (htb : TabAll w) (ho : Owns w B1 b l g d t N) (hm : w.cell? ⟨1, 0, none⟩ = some (.int .i64 mx)) (hp : RowAt w pv plan.length 1 (ints plan)) :
    Calls Tryz.prog 4 #[.agg #[.string N.name, b, l, g, d, t], pv] w (FeedsAs N plan w) := by
  obtain ⟨ab, cb, rfl⟩ := own_slice ho.hb
  obtain ⟨al, cl, rfl⟩ := own_slice ho.hl
  obtain ⟨ag, cg, rfl⟩ := own_slice ho.hg
  obtain ⟨ad, cd, rfl⟩ := own_slice ho.hd
  obtain ⟨at', ct, rfl⟩ := own_slice ho.ht
  have HP := hide' hp
  have HGE := hide' (rowAt_of_own ho.hg)
  have HLO := hide' (rowAt_of_own ho.hd)
  obtain ⟨ap, cp, rfl⟩ := rowAt_slice hp
  obtain ⟨i0, hi0, hzz0, hzz1, hzz2⟩ := info_parts Doc.Tryz.info3
  obtain ⟨W, hW⟩ : ∃ W, W = w.alloc (.cells #[.string N.name, .slice ab N.buses.length cb, .slice al N.lines.length cl, .slice ag N.gens.length cg, .slice ad N.loads.length cd, .slice at' N.ties.length ct] 28) := ⟨_, rfl⟩
  have HBX : Hid (NBx w W #[.string N.name, .slice ab N.buses.length cb, .slice al N.lines.length cl, .slice ag N.gens.length cg, .slice ad N.loads.length cd, .slice at' N.ties.length ct]) := by rw [hW]; exact ⟨(Below.refl _ w).alloc (Nat.le_refl _) _, World.alloc_heap_new w _⟩
  have hoW : Owns W B1 (.slice ab N.buses.length cb) (.slice al N.lines.length cl) (.slice ag N.gens.length cg) (.slice ad N.loads.length cd) (.slice at' N.ties.length ct) N := by
    rw [hW]
    exact ⟨ho.hb.alloc _, ho.hl.alloc _, ho.hg.alloc _, ho.hd.alloc _, ho.ht.alloc _⟩
  have HM := hide' (May_any N B1 _ _ _ _ _ mx W hsm (htb.later HBX.out.bel) hoW ((HBX.out.bel.cell (p := ⟨1, 0, none⟩) (World.block_lt_of_cell? w _ hm)).trans hm))
  have HW := hide' hW
  have hll := hsm.lens.2.2.1
  clear hW hoW ho hm htb hsm hp
  go_enter Tryz.func4, Tryz.ntmps4
  go_wp2_with fail
  rw [← HW.out]
  refine HM.out.mono ?_
  rintro e w1 ⟨⟨r, rfl, hr⟩, hb1⟩
  have HBX1 := hide' (HBX.out.later hb1)
  have HR := hide' hr
  clear hb1 hr HBX HM
  obtain ⟨k0, k1, k2, k3, k4, k5⟩ := HBX1.out.cells
  cases r with
  | false =>
    have HNO : Hid (¬ MayM N) := fun h => absurd (HR.out.2 h) (by decide)
    go_wp2
    refine bodyPost_ret (results_tmp2 rfl _ _ _) rfl ?_
    exact FeedsAs.no HNO.out (answers_nil HBX1.out.bel)
  | true =>
    have HMay := hide' (HR.out.1 rfl)
    by_cases he : plan.length = N.gens.length
    · have HE := hide' he
      have hn16 : N.buses.length ≤ 16 := HMay.out.fits.1
      have hg12 : N.gens.length ≤ 12 := HMay.out.fits.2.2.1
      have hd16 : N.loads.length ≤ 16 := HMay.out.fits.2.2.2.1
      clear he hll
      rw [HE.out] at HP ⊢
      have HAB := hide' (able_any N.gens plan _ _ w1 (RowAt.below HGE.out HBX1.out.bel (Nat.le_refl _)) (RowAt.below HP.out HBX1.out.bel (Nat.le_refl _)) HE.out hg12)
      go_wp2_with fail
      refine HAB.out.mono ?_
      rintro e w2 ⟨⟨r, rfl, hr⟩, hb2⟩
      have HBX2 := hide' (HBX1.out.later hb2)
      have HR2 := hide' hr
      clear hb2 hr HAB k0 k1 k2 k3 k4 k5
      obtain ⟨k0, k1, k2, k3, k4, k5⟩ := HBX2.out.cells
      cases r with
      | false =>
        have HNO : Hid (¬ AbleM N.gens plan) := fun h => absurd (HR2.out.2 h) (by decide)
        go_wp2
        refine bodyPost_ret (results_tmp2 rfl _ _ _) rfl ?_
        exact FeedsAs.range HMay.out HE.out HNO.out (answers_nil HBX2.out.bel)
      | true =>
        have HABLE := hide' (HR2.out.1 rfl)
        go_wp2_with (at_make; refine wpList_make_full _ rfl _ _ 29 rfl w2.heap.size 3 i0 (.int .i64 0) 1 Tryz.underlying29 hi0 hzz0 hzz1 .i64 .i64 _ _ N.buses.length rfl rfl rfl rfl (by rw [hzz2]; omega) (by unfold maxLen; omega) (Nat.le_refl _) ?_; intro w3 hown1 hg1; refine Still.go ?_)
        unfold Still
        obtain ⟨F, hFe⟩ : ∃ F, F = w2.heap.size := ⟨_, rfl⟩
        have HST : Hid (JSt w w3 F #[.string N.name, .slice ab N.buses.length cb, .slice al N.lines.length cl, .slice ag N.gens.length cg, .slice ad N.loads.length cd, .slice at' N.ties.length ct] (feedG N.gens plan N.buses.length 0)) := by
          have h1 := row_of_own hown1
          rw [made_zero] at h1
          have hlt1 := (Array.getElem?_eq_some_iff.1 HBX2.out.box).1
          rw [hFe]
          exact ⟨by rw [h1, feedG, ints, List.map_replicate], HBX2.out.bel.grown hg1 HBX2.out.bel.size (fun k e => by cases e), (hg1.block _ hlt1 (fun e => by cases e)).trans HBX2.out.box, hlt1⟩
        rw [← hFe]
        clear hown1 hg1 k0 k1 k2 k3 k4 k5 hFe
        have c3 : w3.cell? ⟨w.heap.size, 3, none⟩ = some (.slice ag N.gens.length cg) := by simp only [World.cell?, HST.out.box]; rfl
        go_wp2_with fail
        go_loopw [35] (fun i wr => ∃ (k : Nat), i = .int .i64 k ∧ k ≤ N.gens.length ∧ Hid (JSt w wr F #[.string N.name, .slice ab N.buses.length cb, .slice al N.lines.length cl, .slice ag N.gens.length cg, .slice ad N.loads.length cd, .slice at' N.ties.length ct] (feedG N.gens plan N.buses.length k))) (fun i _ => N.gens.length - (intOf i).toNat)
        case atStart => exact ⟨0, rfl, Nat.zero_le _, HST⟩
        case round =>
          clear HST c3
          obtain ⟨k, rfl, hk, HST⟩ := hrel
          by_cases hlt : k < N.gens.length
          · obtain ⟨bt, ot, ct', ex, hbt, hct⟩ := row_elem (f := GenM.cells) (fun _ => rfl) HGE.out k hlt (by decide)
            cases ex
            obtain ⟨bp, op, cp', exp, hcp⟩ := ints_cell2 HP.out k (by rw [HE.out]; exact hlt)
            cases exp
            obtain ⟨g, hgk⟩ : ∃ g, g = N.gens[k] := ⟨_, rfl⟩
            rw [← hgk] at hct
            obtain ⟨p, hpk⟩ : ∃ p, p = plan.getD k 0 := ⟨_, rfl⟩
            rw [← hpk] at hcp
            have HK : Hid (N.gens[k]? = some g) := by show _ = _; rw [hgk]; exact List.getElem?_eq_getElem hlt
            have hte := HMay.out.gens g (by rw [hgk]; exact List.getElem_mem hlt)
            obtain ⟨bN, hbN⟩ := Int.eq_ofNat_of_zero_le hte.1
            have hbl : bN < N.buses.length := by omega
            have up : ∀ (c j : Nat) (u : Value), w.cell? ⟨c, j, none⟩ = some u → wr.cell? ⟨c, j, none⟩ = some u := fun c j u h => (HST.out.bel.cell (World.block_lt_of_cell? w _ h)).trans h
            have d0 := up _ _ _ (hct 0 _ rfl)
            have hc1 := hct 1 _ rfl
            rw [hbN] at hc1
            have d1 := up _ _ _ hc1
            have d2 := up _ _ _ (hct 2 _ rfl)
            have d3 := up _ _ _ (hct 3 _ rfl)
            have d4 := up _ _ _ (hct 4 _ rfl)
            have d5 := up _ _ _ hcp
            rw [Nat.add_zero] at d0
            obtain ⟨x0, hx0⟩ : ∃ x, x = g.name := ⟨_, rfl⟩
            obtain ⟨x2, hx2⟩ : ∃ x, x = g.least := ⟨_, rfl⟩
            obtain ⟨x3, hx3⟩ : ∃ x, x = g.most := ⟨_, rfl⟩
            obtain ⟨x4, hx4⟩ : ∃ x, x = g.cost := ⟨_, rfl⟩
            rw [← hx0] at d0
            rw [← hx2] at d2
            rw [← hx3] at d3
            rw [← hx4] at d4
            obtain ⟨z, hz⟩ : ∃ z, z = (feedG N.gens plan N.buses.length k).getD bN 0 := ⟨_, rfl⟩
            have HSTEP := hide' (feedG_step HK.out hbN hz hpk)
            obtain ⟨W2, hW2⟩ : ∃ W2, W2 = wr.alloc (.cells #[.string x0, .int .i64 (bN : Int), .int .i64 x2, .int .i64 x3, .int .i64 x4] 40) := ⟨_, rfl⟩
            have m1 : W2.cell? ⟨wr.heap.size, 1, none⟩ = some (.int .i64 (bN : Int)) := by rw [hW2]; exact cell_news wr [.string x0, .int .i64 (bN : Int), .int .i64 x2, .int .i64 x3, .int .i64 x4] 40 1 _ rfl
            have m5 : W2.cell? ⟨bp, op + k, none⟩ = some (.int .i64 p) := by rw [hW2]; exact later d5 _
            have HS2 : Hid (JSt w W2 F #[.string N.name, .slice ab N.buses.length cb, .slice al N.lines.length cl, .slice (some ⟨bt, ot, none⟩) N.gens.length cg, .slice ad N.loads.length cd, .slice at' N.ties.length ct] (feedG N.gens plan N.buses.length k)) := by rw [hW2]; exact HST.out.later ((Below.refl _ wr).alloc (Nat.le_refl _) _)
            obtain ⟨cW, fW⟩ := intsCell HS2.out.hF (j := bN) (by rw [feedG_len]; exact hbl)
            rw [← hz] at cW
            have HW2 := hide' hW2
            clear hct hgk hcp hpk up hx0 hx2 hx3 hx4 hbt hW2 hc1 hbN hte hz d5 HST
            go_wp2_with fail
            rw [← HW2.out]
            clear d0 d1 d2 d3 d4
            refine wp_region_tail (fun W => W.cell? ⟨wr.heap.size, 1, none⟩ = some (.int .i64 (bN : Int)) ∧ W.cell? ⟨bp, op + k, none⟩ = some (.int .i64 p) ∧ W.cell? ⟨F, bN, none⟩ = some (.int .i64 z)) 11 (by kernel_rfl) ?_
            refine wpAnyD_takeAt 0 (some 40) (v := ?_) rfl (by kernel_rfl) (by kernel_rfl) (by kernel_rfl) (by kernel_rfl) (by kernel_rfl) (fun _ _ _ h => h) (by exact ⟨m1, m5, cW⟩) (fun o hop => ?_) ?_
            rotate_left
            · injection hop with hop
              subst hop
              refine ⟨rfl, fun W hW => ?_⟩
              obtain ⟨s0, s1, s2⟩ := hW
              go_simp
              first
              | rfl
              | rw [if_neg (by omega)]
            try simp only [Act.put, List.setIfInBounds_toArray, List.set_cons_zero, List.set_cons_succ]
            refine wpAnyD_takeAt 1 (some 41) (v := ?_) rfl (by kernel_rfl) (by kernel_rfl) (by kernel_rfl) (by kernel_rfl) (by kernel_rfl) (fun _ _ _ h => h) (by exact ⟨m1, m5, cW⟩) (fun o hop => ?_) ?_
            rotate_left
            · injection hop with hop
              subst hop
              refine ⟨rfl, fun W hW => ?_⟩
              obtain ⟨s0, s1, s2⟩ := hW
              go_simp
              first
              | rfl
              | rw [if_neg (by omega)]
            try simp only [Act.put, List.setIfInBounds_toArray, List.set_cons_zero, List.set_cons_succ]
            refine wpAnyD_takeAt 2 (some 42) (v := ?_) rfl (by kernel_rfl) (by kernel_rfl) (by kernel_rfl) (by kernel_rfl) (by kernel_rfl) (fun _ _ _ h => h) (by exact ⟨m1, m5, cW⟩) (fun o hop => ?_) ?_
            rotate_left
            · injection hop with hop
              subst hop
              refine ⟨rfl, fun W hW => ?_⟩
              obtain ⟨s0, s1, s2⟩ := hW
              go_simp
              first
              | rfl
              | rw [if_neg (by omega)]
            try simp only [Act.put, List.setIfInBounds_toArray, List.set_cons_zero, List.set_cons_succ]
            refine wpAnyD_takeAt 3 (some 43) (v := ?_) rfl (by kernel_rfl) (by kernel_rfl) (by kernel_rfl) (by kernel_rfl) (by kernel_rfl) (fun _ _ _ h => h) (by exact ⟨m1, m5, cW⟩) (fun o hop => ?_) ?_
            rotate_left
            · injection hop with hop
              subst hop
              refine ⟨rfl, fun W hW => ?_⟩
              obtain ⟨s0, s1, s2⟩ := hW
              go_simp
              first
              | rfl
              | rw [if_neg (by omega)]
            try simp only [Act.put, List.setIfInBounds_toArray, List.set_cons_zero, List.set_cons_succ]
            refine wpAnyD_takeAt 4 (some 44) (v := ?_) rfl (by kernel_rfl) (by kernel_rfl) (by kernel_rfl) (by kernel_rfl) (by kernel_rfl) (fun _ _ _ h => h) (by exact ⟨m1, m5, cW⟩) (fun o hop => ?_) ?_
            rotate_left
            · injection hop with hop
              subst hop
              refine ⟨rfl, fun W hW => ?_⟩
              obtain ⟨s0, s1, s2⟩ := hW
              go_simp
              first
              | rfl
              | rw [if_neg (by omega)]
            try simp only [Act.put, List.setIfInBounds_toArray, List.set_cons_zero, List.set_cons_succ]
            refine wpAnyD_takeAt 5 (some 45) (v := ?_) rfl (by kernel_rfl) (by kernel_rfl) (by kernel_rfl) (by kernel_rfl) (by kernel_rfl) (fun _ _ _ h => h) (by exact ⟨m1, m5, cW⟩) (fun o hop => ?_) ?_
            rotate_left
            · injection hop with hop
              subst hop
              refine ⟨rfl, fun W hW => ?_⟩
              obtain ⟨s0, s1, s2⟩ := hW
              go_simp
              first
              | rfl
              | rw [if_neg (by omega)]
            try simp only [Act.put, List.setIfInBounds_toArray, List.set_cons_zero, List.set_cons_succ]
            refine wpAnyD_takeAt 6 (some 46) (v := ?_) rfl (by kernel_rfl) (by kernel_rfl) (by kernel_rfl) (by kernel_rfl) (by kernel_rfl) (fun _ _ _ h => h) (by exact ⟨m1, m5, cW⟩) (fun o hop => ?_) ?_
            rotate_left
            · injection hop with hop
              subst hop
              refine ⟨rfl, fun W hW => ?_⟩
              obtain ⟨s0, s1, s2⟩ := hW
              go_simp
              first
              | rfl
              | rw [if_neg (by omega)]
            try simp only [Act.put, List.setIfInBounds_toArray, List.set_cons_zero, List.set_cons_succ]
            refine wpAnyD_takeAt 7 (some 47) (v := ?_) rfl (by kernel_rfl) (by kernel_rfl) (by kernel_rfl) (by kernel_rfl) (by kernel_rfl) (fun _ _ _ h => h) (by exact ⟨m1, m5, cW⟩) (fun o hop => ?_) ?_
            rotate_left
            · injection hop with hop
              subst hop
              refine ⟨rfl, fun W hW => ?_⟩
              obtain ⟨s0, s1, s2⟩ := hW
              go_simp
              first
              | rfl
              | rw [if_neg (by omega)]
            try simp only [Act.put, List.setIfInBounds_toArray, List.set_cons_zero, List.set_cons_succ]
            refine wpAnyD_takeAt 8 (some 48) (v := ?_) rfl (by kernel_rfl) (by kernel_rfl) (by kernel_rfl) (by kernel_rfl) (by kernel_rfl) (fun _ _ _ h => h) (by exact ⟨m1, m5, cW⟩) (fun o hop => ?_) ?_
            rotate_left
            · injection hop with hop
              subst hop
              refine ⟨rfl, fun W hW => ?_⟩
              obtain ⟨s0, s1, s2⟩ := hW
              go_simp
              first
              | rfl
              | rw [if_neg (by omega)]
            try simp only [Act.put, List.setIfInBounds_toArray, List.set_cons_zero, List.set_cons_succ]
            refine wpAnyD_takeAt 9 (some 49) (v := ?_) rfl (by kernel_rfl) (by kernel_rfl) (by kernel_rfl) (by kernel_rfl) (by kernel_rfl) (fun _ _ _ h => h) (by exact ⟨m1, m5, cW⟩) (fun o hop => ?_) ?_
            rotate_left
            · injection hop with hop
              subst hop
              refine ⟨rfl, fun W hW => ?_⟩
              obtain ⟨s0, s1, s2⟩ := hW
              go_simp
              first
              | rfl
              | rw [if_neg (by omega)]
            try simp only [Act.put, List.setIfInBounds_toArray, List.set_cons_zero, List.set_cons_succ]
            refine wpAnyD_takeAt 10 (some 50) (v := ?_) rfl (by kernel_rfl) (by kernel_rfl) (by kernel_rfl) (by kernel_rfl) (by kernel_rfl) (fun _ _ _ h => h) (by exact ⟨m1, m5, cW⟩) (fun o hop => ?_) ?_
            rotate_left
            · injection hop with hop
              subst hop
              refine ⟨rfl, fun W hW => ?_⟩
              obtain ⟨s0, s1, s2⟩ := hW
              go_simp
              first
              | rfl
              | rw [if_neg (by omega)]
            try simp only [Act.put, List.setIfInBounds_toArray, List.set_cons_zero, List.set_cons_succ]
            refine wpAnyT_one (i := 11) (by kernel_rfl) rfl rfl (fun K' hK => ?_)
            go_simp
            refine hK.out _ _ (fun h => absurd rfl h) ?_
            clear hK K'
            refine wpAnyT_done (by kernel_rfl) ?_ _
            have HS6 : Hid (JSt w (W2.setCell ⟨F, bN, none⟩ (.int .i64 (wrap64 (z + p)))).drew F #[.string N.name, .slice ab N.buses.length cb, .slice al N.lines.length cl, .slice (some ⟨bt, ot, none⟩) N.gens.length cg, .slice ad N.loads.length cd, .slice at' N.ties.length ct] (feedG N.gens plan N.buses.length (k + 1))) := by
              rw [HSTEP.out]
              exact (HS2.out.set bN _).drew
            clear m1 m5 cW fW
            go_wp2
            exact ⟨⟨k + 1, by go_num, by omega, HS6⟩, by simp [intOf]; omega⟩
          · have hkn : k = N.gens.length := by omega
            subst hkn
            clear hk hlt
            have c4 : wr.cell? ⟨w.heap.size, 4, none⟩ = some (.slice ad N.loads.length cd) := by simp only [World.cell?, HST.out.box]; rfl
            go_wp2_with fail
            go_loopw [55] (fun i wr => ∃ (k : Nat), i = .int .i64 k ∧ k ≤ N.loads.length ∧ Hid (JSt w wr F #[.string N.name, .slice ab N.buses.length cb, .slice al N.lines.length cl, .slice ag N.gens.length cg, .slice ad N.loads.length cd, .slice at' N.ties.length ct] (feedD N.loads (feedG N.gens plan N.buses.length N.gens.length) k))) (fun i _ => N.loads.length - (intOf i).toNat)
            case atStart => exact ⟨0, rfl, Nat.zero_le _, HST⟩
            case round =>
              clear HST c4
              obtain ⟨k, rfl, hk, HST⟩ := hrel
              by_cases hlt : k < N.loads.length
              · obtain ⟨bt, ot, ct', ex, hbt, hct⟩ := row_elem (f := LoadM.cells) (fun _ => rfl) HLO.out k hlt (by decide)
                cases ex
                obtain ⟨g, hgk⟩ : ∃ g, g = N.loads[k] := ⟨_, rfl⟩
                rw [← hgk] at hct
                have HK : Hid (N.loads[k]? = some g) := by show _ = _; rw [hgk]; exact List.getElem?_eq_getElem hlt
                have hte := HMay.out.loads g (by rw [hgk]; exact List.getElem_mem hlt)
                obtain ⟨bN, hbN⟩ := Int.eq_ofNat_of_zero_le hte.1
                have hbl : bN < N.buses.length := by omega
                have up : ∀ (c j : Nat) (u : Value), w.cell? ⟨c, j, none⟩ = some u → wr.cell? ⟨c, j, none⟩ = some u := fun c j u h => (HST.out.bel.cell (World.block_lt_of_cell? w _ h)).trans h
                have d0 := up _ _ _ (hct 0 _ rfl)
                have hc1 := hct 1 _ rfl
                rw [hbN] at hc1
                have d1 := up _ _ _ hc1
                have d2 := up _ _ _ (hct 2 _ rfl)
                rw [Nat.add_zero] at d0
                obtain ⟨x0, hx0⟩ : ∃ x, x = g.name := ⟨_, rfl⟩
                obtain ⟨p, hpk⟩ : ∃ p, p = g.power := ⟨_, rfl⟩
                rw [← hx0] at d0
                rw [← hpk] at d2
                obtain ⟨z, hz⟩ : ∃ z, z = (feedD N.loads (feedG N.gens plan N.buses.length N.gens.length) k).getD bN 0 := ⟨_, rfl⟩
                have HSTEP := hide' (feedD_step HK.out hbN hz hpk)
                obtain ⟨W2, hW2⟩ : ∃ W2, W2 = wr.alloc (.cells #[.string x0, .int .i64 (bN : Int), .int .i64 p] 42) := ⟨_, rfl⟩
                have m1 : W2.cell? ⟨wr.heap.size, 1, none⟩ = some (.int .i64 (bN : Int)) := by rw [hW2]; exact cell_news wr [.string x0, .int .i64 (bN : Int), .int .i64 p] 42 1 _ rfl
                have m2 : W2.cell? ⟨wr.heap.size, 2, none⟩ = some (.int .i64 p) := by rw [hW2]; exact cell_news wr [.string x0, .int .i64 (bN : Int), .int .i64 p] 42 2 _ rfl
                have HS2 : Hid (JSt w W2 F #[.string N.name, .slice ab N.buses.length cb, .slice al N.lines.length cl, .slice ag N.gens.length cg, .slice (some ⟨bt, ot, none⟩) N.loads.length cd, .slice at' N.ties.length ct] (feedD N.loads (feedG N.gens plan N.buses.length N.gens.length) k)) := by rw [hW2]; exact HST.out.later ((Below.refl _ wr).alloc (Nat.le_refl _) _)
                obtain ⟨cW, fW⟩ := intsCell HS2.out.hF (j := bN) (by rw [feedD_len, feedG_len]; exact hbl)
                rw [← hz] at cW
                have HW2 := hide' hW2
                clear hct hgk hpk up hx0 hbt hW2 hc1 hbN hte hz HST
                go_wp2_with fail
                rw [← HW2.out]
                clear d0 d1 d2
                refine wp_region_tail (fun W => W.cell? ⟨wr.heap.size, 1, none⟩ = some (.int .i64 (bN : Int)) ∧ W.cell? ⟨wr.heap.size, 2, none⟩ = some (.int .i64 p) ∧ W.cell? ⟨F, bN, none⟩ = some (.int .i64 z)) 9 (by kernel_rfl) ?_
                refine wpAnyD_takeAt 0 (some 59) (v := ?_) rfl (by kernel_rfl) (by kernel_rfl) (by kernel_rfl) (by kernel_rfl) (by kernel_rfl) (fun _ _ _ h => h) (by exact ⟨m1, m2, cW⟩) (fun o hop => ?_) ?_
                rotate_left
                · injection hop with hop
                  subst hop
                  refine ⟨rfl, fun W hW => ?_⟩
                  obtain ⟨s0, s1, s2⟩ := hW
                  go_simp
                  first
                  | rfl
                  | rw [if_neg (by omega)]
                try simp only [Act.put, List.setIfInBounds_toArray, List.set_cons_zero, List.set_cons_succ]
                refine wpAnyD_takeAt 1 (some 60) (v := ?_) rfl (by kernel_rfl) (by kernel_rfl) (by kernel_rfl) (by kernel_rfl) (by kernel_rfl) (fun _ _ _ h => h) (by exact ⟨m1, m2, cW⟩) (fun o hop => ?_) ?_
                rotate_left
                · injection hop with hop
                  subst hop
                  refine ⟨rfl, fun W hW => ?_⟩
                  obtain ⟨s0, s1, s2⟩ := hW
                  go_simp
                  first
                  | rfl
                  | rw [if_neg (by omega)]
                try simp only [Act.put, List.setIfInBounds_toArray, List.set_cons_zero, List.set_cons_succ]
                refine wpAnyD_takeAt 2 (some 61) (v := ?_) rfl (by kernel_rfl) (by kernel_rfl) (by kernel_rfl) (by kernel_rfl) (by kernel_rfl) (fun _ _ _ h => h) (by exact ⟨m1, m2, cW⟩) (fun o hop => ?_) ?_
                rotate_left
                · injection hop with hop
                  subst hop
                  refine ⟨rfl, fun W hW => ?_⟩
                  obtain ⟨s0, s1, s2⟩ := hW
                  go_simp
                  first
                  | rfl
                  | rw [if_neg (by omega)]
                try simp only [Act.put, List.setIfInBounds_toArray, List.set_cons_zero, List.set_cons_succ]
                refine wpAnyD_takeAt 3 (some 62) (v := ?_) rfl (by kernel_rfl) (by kernel_rfl) (by kernel_rfl) (by kernel_rfl) (by kernel_rfl) (fun _ _ _ h => h) (by exact ⟨m1, m2, cW⟩) (fun o hop => ?_) ?_
                rotate_left
                · injection hop with hop
                  subst hop
                  refine ⟨rfl, fun W hW => ?_⟩
                  obtain ⟨s0, s1, s2⟩ := hW
                  go_simp
                  first
                  | rfl
                  | rw [if_neg (by omega)]
                try simp only [Act.put, List.setIfInBounds_toArray, List.set_cons_zero, List.set_cons_succ]
                refine wpAnyD_takeAt 4 (some 63) (v := ?_) rfl (by kernel_rfl) (by kernel_rfl) (by kernel_rfl) (by kernel_rfl) (by kernel_rfl) (fun _ _ _ h => h) (by exact ⟨m1, m2, cW⟩) (fun o hop => ?_) ?_
                rotate_left
                · injection hop with hop
                  subst hop
                  refine ⟨rfl, fun W hW => ?_⟩
                  obtain ⟨s0, s1, s2⟩ := hW
                  go_simp
                  first
                  | rfl
                  | rw [if_neg (by omega)]
                try simp only [Act.put, List.setIfInBounds_toArray, List.set_cons_zero, List.set_cons_succ]
                refine wpAnyD_takeAt 5 (some 64) (v := ?_) rfl (by kernel_rfl) (by kernel_rfl) (by kernel_rfl) (by kernel_rfl) (by kernel_rfl) (fun _ _ _ h => h) (by exact ⟨m1, m2, cW⟩) (fun o hop => ?_) ?_
                rotate_left
                · injection hop with hop
                  subst hop
                  refine ⟨rfl, fun W hW => ?_⟩
                  obtain ⟨s0, s1, s2⟩ := hW
                  go_simp
                  first
                  | rfl
                  | rw [if_neg (by omega)]
                try simp only [Act.put, List.setIfInBounds_toArray, List.set_cons_zero, List.set_cons_succ]
                refine wpAnyD_takeAt 6 (some 65) (v := ?_) rfl (by kernel_rfl) (by kernel_rfl) (by kernel_rfl) (by kernel_rfl) (by kernel_rfl) (fun _ _ _ h => h) (by exact ⟨m1, m2, cW⟩) (fun o hop => ?_) ?_
                rotate_left
                · injection hop with hop
                  subst hop
                  refine ⟨rfl, fun W hW => ?_⟩
                  obtain ⟨s0, s1, s2⟩ := hW
                  go_simp
                  first
                  | rfl
                  | rw [if_neg (by omega)]
                try simp only [Act.put, List.setIfInBounds_toArray, List.set_cons_zero, List.set_cons_succ]
                refine wpAnyD_takeAt 7 (some 66) (v := ?_) rfl (by kernel_rfl) (by kernel_rfl) (by kernel_rfl) (by kernel_rfl) (by kernel_rfl) (fun _ _ _ h => h) (by exact ⟨m1, m2, cW⟩) (fun o hop => ?_) ?_
                rotate_left
                · injection hop with hop
                  subst hop
                  refine ⟨rfl, fun W hW => ?_⟩
                  obtain ⟨s0, s1, s2⟩ := hW
                  go_simp
                  first
                  | rfl
                  | rw [if_neg (by omega)]
                try simp only [Act.put, List.setIfInBounds_toArray, List.set_cons_zero, List.set_cons_succ]
                refine wpAnyD_takeAt 8 (some 67) (v := ?_) rfl (by kernel_rfl) (by kernel_rfl) (by kernel_rfl) (by kernel_rfl) (by kernel_rfl) (fun _ _ _ h => h) (by exact ⟨m1, m2, cW⟩) (fun o hop => ?_) ?_
                rotate_left
                · injection hop with hop
                  subst hop
                  refine ⟨rfl, fun W hW => ?_⟩
                  obtain ⟨s0, s1, s2⟩ := hW
                  go_simp
                  first
                  | rfl
                  | rw [if_neg (by omega)]
                try simp only [Act.put, List.setIfInBounds_toArray, List.set_cons_zero, List.set_cons_succ]
                refine wpAnyT_one (i := 9) (by kernel_rfl) rfl rfl (fun K' hK => ?_)
                go_simp
                refine hK.out _ _ (fun h => absurd rfl h) ?_
                clear hK K'
                refine wpAnyT_done (by kernel_rfl) ?_ _
                have HS6 : Hid (JSt w (W2.setCell ⟨F, bN, none⟩ (.int .i64 (wrap64 (z - p)))).drew F #[.string N.name, .slice ab N.buses.length cb, .slice al N.lines.length cl, .slice ag N.gens.length cg, .slice (some ⟨bt, ot, none⟩) N.loads.length cd, .slice at' N.ties.length ct] (feedD N.loads (feedG N.gens plan N.buses.length N.gens.length) (k + 1))) := by
                  rw [HSTEP.out]
                  exact (HS2.out.set bN _).drew
                clear m1 m2 cW fW
                go_wp2
                exact ⟨⟨k + 1, by go_num, by omega, HS6⟩, by simp [intOf]; omega⟩
              · have hkn : k = N.loads.length := by omega
                subst hkn
                go_wp2
                refine bodyPost_ret (results_tmp2 rfl _ _ _) rfl ?_
                exact FeedsAs.ok HMay.out HE.out HABLE.out ⟨_, rfl, HST.out.row (feedsL_len N plan), HST.out.bel⟩
    · have HE := hide' he
      have hne : ((plan.length : Int) == (N.gens.length : Int)) = false := beq_eq_false_iff_ne.2 (by omega)
      clear he
      go_wp2
      refine bodyPost_ret (results_tmp2 rfl _ _ _) rfl ?_
      exact FeedsAs.size HMay.out HE.out (answers_nil HBX1.out.bel)
end Go.Proofs.YtakcpemboeekfadGreatDoor.Bar
