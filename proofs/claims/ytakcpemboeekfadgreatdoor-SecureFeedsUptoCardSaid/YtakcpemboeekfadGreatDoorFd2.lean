/- The document's own feeds. -/
import Derived.Test.YtakcpemboeekfadGreatDoorFd1
namespace Go.Proofs.YtakcpemboeekfadGreatDoor.Bar
open Go.RowKit Go.Shelf Doc

theorem FeedsAs.no {N : NetM} {plan : List Int} {w w' : World} {e : Ending} (h : ¬ MayM N) (ha : Answers [] 14 w e w') : FeedsAs N plan w e w' := ⟨fun _ => ha, fun h' => absurd h' h, fun h' => absurd h' h, fun h' => absurd h' h⟩
theorem FeedsAs.size {N : NetM} {plan : List Int} {w w' : World} {e : Ending} (h : MayM N) (h2 : plan.length ≠ N.gens.length) (ha : Answers [] 2 w e w') : FeedsAs N plan w e w' := ⟨fun h' => absurd h h', fun _ _ => ha, fun _ h' => absurd h' h2, fun _ h' => absurd h' h2⟩
theorem FeedsAs.range {N : NetM} {plan : List Int} {w w' : World} {e : Ending} (h : MayM N) (h2 : plan.length = N.gens.length) (h3 : ¬ AbleM N.gens plan) (ha : Answers [] 4 w e w') : FeedsAs N plan w e w' := ⟨fun h' => absurd h h', fun _ h' => absurd h2 h', fun _ _ _ => ha, fun _ _ h' => absurd h' h3⟩
theorem FeedsAs.ok {N : NetM} {plan : List Int} {w w' : World} {e : Ending} (h : MayM N) (h2 : plan.length = N.gens.length) (h3 : AbleM N.gens plan) (ha : Answers (feedsL N plan) 0 w e w') : FeedsAs N plan w e w' := ⟨fun h' => absurd h h', fun _ h' => absurd h2 h', fun _ _ h' => absurd h3 h', fun _ _ _ => ha⟩
theorem JSt.drew {w W : World} {F : Nat} {g : Array Value} {l : List Int} (h : JSt w W F g l) : JSt w W.drew F g l := ⟨h.hF, h.bel.drew, h.box, h.hlt⟩
theorem JSt.drewN {w W : World} {F : Nat} {g : Array Value} {l : List Int} (h : JSt w W F g l) (q : Nat) : JSt w (W.drewN q) F g l := h.later (below_drewN (Below.refl _ W) q)
theorem JSt.row {w W : World} {F n : Nat} {g : Array Value} {l : List Int} (h : JSt w W F g l) (hl : l.length = n) : RowAt W (.slice (some ⟨F, 0, none⟩) n n) l.length 1 (ints l) := rowAt_ints h.hF hl
theorem feedG_step {gs : List GenM} {plan : List Int} {n k b : Nat} {g : GenM} {z p : Int} (hg : gs[k]? = some g) (hb : g.bus = (b : Int)) (hz : z = (feedG gs plan n k).getD b 0) (hp : p = plan.getD k 0) : feedG gs plan n (k + 1) = (feedG gs plan n k).set b (wrap64 (z + p)) := by
  simp only [feedG, hg, hb, Int.toNat_natCast, hz, hp]
theorem feedD_step {ds : List LoadM} {s : List Int} {k b : Nat} {d : LoadM} {z p : Int} (hd : ds[k]? = some d) (hb : d.bus = (b : Int)) (hz : z = (feedD ds s k).getD b 0) (hp : p = d.power) : feedD ds s (k + 1) = (feedD ds s k).set b (wrap64 (z - p)) := by
  simp only [feedD, hd, hb, Int.toNat_natCast, hz, hp]

set_option maxRecDepth 100000 in
set_option maxHeartbeats 8000000 in
theorem FeedsOf_any (N : NetM) (plan : List Int) (v pv : Value) (w : World) (hx : NetAt w v N) (hsm : SmallM N) (hp : RowAt w pv plan.length 1 (ints plan)) :
    Calls Tryz.prog 7 #[v, pv] w (FeedsAs N plan w) := by
  obtain ⟨b, l, g, d, t, rfl, hb, hl, hg, hd, ht⟩ := hx
  obtain ⟨ab, cb, rfl⟩ := rowAt_slice hb
  obtain ⟨al, cl, rfl⟩ := rowAt_slice hl
  obtain ⟨ag, cg, rfl⟩ := rowAt_slice hg
  obtain ⟨ad, cd, rfl⟩ := rowAt_slice hd
  obtain ⟨at', ct, rfl⟩ := rowAt_slice ht
  have HP := hide' hp
  have HGE := hide' hg
  have HLO := hide' hd
  obtain ⟨ap, cp, rfl⟩ := rowAt_slice hp
  obtain ⟨i0, hi0, hzz0, hzz1, hzz2⟩ := info_parts Doc.Tryz.info3
  obtain ⟨W, hW⟩ : ∃ W, W = w.alloc (.cells #[.string N.name, .slice ab N.buses.length cb, .slice al N.lines.length cl, .slice ag N.gens.length cg, .slice ad N.loads.length cd, .slice at' N.ties.length ct] 28) := ⟨_, rfl⟩
  have HX := hide' (Bx1.make hb hl hg hd ht hW)
  have HM := hide' (NetMay_any N _ W ⟨_, _, _, _, _, rfl, HX.out.hb, HX.out.hl, HX.out.hg, HX.out.hd, HX.out.ht⟩ hsm)
  have HW := hide' hW
  have hll := hsm.lens.2.2.1
  clear hW hb hl hg hd ht hsm hp
  go_enter Tryz.func7, Tryz.ntmps7
  go_wp2_with fail
  rw [← HW.out]
  refine HM.out.mono ?_
  rintro e w1 ⟨⟨r, rfl, hr⟩, hb1⟩
  have HX1 := hide' (HX.out.later hb1)
  have HR := hide' hr
  obtain ⟨k0, k1, k2, k3, k4, k5, kf⟩ := cells28 HX1.out.box
  clear hb1 hr HX HM
  cases r with
  | false =>
    have hno : ¬ MayM N := fun h => by have := HR.out.2 h; cases this
    have HNO := hide' hno
    clear hno
    go_wp2
    refine bodyPost_ret (results_tmp2 rfl _ _ _) rfl ?_
    exact FeedsAs.no HNO.out (answers_nil HX1.out.bel)
  | true =>
    have HMay := hide' (HR.out.1 rfl)
    by_cases he : plan.length = N.gens.length
    · have HE := hide' he
      have hn16 : N.buses.length ≤ 16 := HMay.out.fits.1
      have hg12 : N.gens.length ≤ 12 := HMay.out.fits.2.2.1
      have hd16 : N.loads.length ≤ 16 := HMay.out.fits.2.2.2.1
      clear he hll
      rw [HE.out] at HP ⊢
      go_wp2_with (at_make; refine wpList_make_full _ rfl _ _ 29 rfl w1.heap.size 3 i0 (.int .i64 0) 1 Tryz.underlying29 hi0 hzz0 hzz1 .i64 .i64 _ _ N.buses.length rfl rfl rfl rfl (by rw [hzz2]; omega) (by unfold maxLen; omega) (Nat.le_refl _) ?_; intro w2 hown1 hg1; refine Still.go ?_)
      unfold Still
      obtain ⟨F, hFe⟩ : ∃ F, F = w1.heap.size := ⟨_, rfl⟩
      have HST : Hid (JSt w w2 F #[.string N.name, .slice ab N.buses.length cb, .slice al N.lines.length cl, .slice ag N.gens.length cg, .slice ad N.loads.length cd, .slice at' N.ties.length ct] (feedG N.gens plan N.buses.length 0)) := by
        have h1 := row_of_own hown1
        rw [made_zero] at h1
        have hlt1 := (Array.getElem?_eq_some_iff.1 HX1.out.box).1
        rw [hFe]
        exact ⟨by rw [h1, feedG, ints, List.map_replicate], HX1.out.bel.grown hg1 HX1.out.bel.size (fun k e => by cases e), (hg1.block _ hlt1 (fun e => by cases e)).trans HX1.out.box, hlt1⟩
      rw [← hFe]
      clear hown1 hg1 k0 k1 k2 k3 k4 k5 kf hFe
      go_wp2_with fail
      go_loopw [7] (fun i wr => ∃ (k : Nat), i = .int .i64 k ∧ k ≤ N.gens.length ∧ Hid (∀ j g, j < k → N.gens[j]? = some g → OkG g (plan.getD j 0)) ∧ Hid (JSt w wr F #[.string N.name, .slice ab N.buses.length cb, .slice al N.lines.length cl, .slice ag N.gens.length cg, .slice ad N.loads.length cd, .slice at' N.ties.length ct] (feedG N.gens plan N.buses.length k))) (fun i _ => N.gens.length - (intOf i).toNat)
      case atStart => exact ⟨0, rfl, Nat.zero_le _, fun j _ h => absurd h (Nat.not_lt_zero j), HST⟩
      case round =>
        clear HST
        obtain ⟨k, rfl, hk, HOK, HST⟩ := hrel
        by_cases hlt : k < N.gens.length
        · obtain ⟨bt, ot, ct', ex, hbt, hct⟩ := row_elem (f := GenM.cells) (fun _ => rfl) HGE.out k hlt (by decide)
          cases ex
          obtain ⟨bp, op, cp', exp, hcp⟩ := ints_cell2 HP.out k (by rw [HE.out]; exact hlt)
          cases exp
          obtain ⟨g, hgk⟩ : ∃ g, g = N.gens[k] := ⟨_, rfl⟩
          rw [← hgk] at hct
          obtain ⟨p, hpk⟩ : ∃ p, p = plan.getD k 0 := ⟨_, rfl⟩
          rw [← hpk] at hcp
          have HK : Hid (N.gens[k]? = some g) := by show _ = _; rw [hgk]; exact List.getElem?_eq_getElem hlt
          have HPK := hide' hpk
          have hte := HMay.out.gens g (by rw [hgk]; exact List.getElem_mem hlt)
          obtain ⟨bN, hbN⟩ := Int.eq_ofNat_of_zero_le hte.1
          have hbl : bN < N.buses.length := by omega
          have HBN := hide' hbN
          have up : ∀ (c j : Nat) (u : Value), w.cell? ⟨c, j, none⟩ = some u → wr.cell? ⟨c, j, none⟩ = some u := fun c j u h => (HST.out.bel.cell (World.block_lt_of_cell? w _ h)).trans h
          have hc1 := hct 1 _ rfl
          rw [hbN] at hc1
          have d1 := up _ _ _ hc1
          have d2 := up _ _ _ (hct 2 _ rfl)
          have d3 := up _ _ _ (hct 3 _ rfl)
          have d5 := up _ _ _ hcp
          have HOG : Hid (OkG g p ↔ (p = 0 ∨ (g.least ≤ p ∧ p ≤ g.most))) := Iff.rfl
          obtain ⟨x2, hx2⟩ : ∃ x, x = g.least := ⟨_, rfl⟩
          obtain ⟨x3, hx3⟩ : ∃ x, x = g.most := ⟨_, rfl⟩
          rw [← hx2] at d2 HOG
          rw [← hx3] at d3 HOG
          have c3 : wr.cell? ⟨w.heap.size, 3, none⟩ = some (.slice (some ⟨bt, ot, none⟩) N.gens.length cg) := by simp only [World.cell?, HST.out.box]; rfl
          obtain ⟨cW, fW⟩ := intsCell HST.out.hF (j := bN) (by rw [feedG_len]; exact hbl)
          obtain ⟨z, hz⟩ : ∃ z, z = (feedG N.gens plan N.buses.length k).getD bN 0 := ⟨_, rfl⟩
          rw [← hz] at cW
          have HSTEP := hide' (feedG_step HK.out hbN hz HPK.out)
          have HNEXT : Hid (OkG g p → ∀ j g', j < k + 1 → N.gens[j]? = some g' → OkG g' (plan.getD j 0)) := fun h j g' hj hg' => by
            by_cases e : j = k
            · rw [e] at hg' ⊢
              rw [HK.out] at hg'
              cases hg'
              rw [← HPK.out]
              exact h
            · exact HOK.out j g' (by omega) hg'
          have HBAD : Hid (¬ OkG g p → ¬ AbleM N.gens plan) := fun h ha => h (by rw [HPK.out]; exact ha k g HK.out)
          clear hct hgk hcp hpk up hx2 hx3 hbt hc1 hbN hte hz HOK HBN
          go_wp2_with fail
          by_cases hp0 : p = 0
          · have HYES : Hid (OkG g p) := HOG.out.2 (.inl hp0)
            have hb0 : (p != 0) = false := by rw [hp0]; rfl
            clear hp0
            go_quiet (fail)
            obtain ⟨W5, hW5⟩ : ∃ W5, W5 = wr.drewN nq := ⟨_, rfl⟩
            rw [← hW5]
            have HS5 : Hid (JSt w W5 F #[.string N.name, .slice ab N.buses.length cb, .slice al N.lines.length cl, .slice (some ⟨bt, ot, none⟩) N.gens.length cg, .slice ad N.loads.length cd, .slice at' N.ties.length ct] (feedG N.gens plan N.buses.length k)) := by rw [hW5]; exact HST.out.drewN nq
            have h5 : ∀ (c : Addr) (u : Value), wr.cell? c = some u → W5.cell? c = some u := fun c u h => by rw [hW5]; exact ((below_drewN (Below.refl _ wr) nq).cell (World.block_lt_of_cell? wr _ h)).trans h
            replace c3 := h5 _ _ c3
            replace d1 := h5 _ _ d1
            replace d5 := h5 _ _ d5
            replace cW := h5 _ _ cW
            obtain ⟨-, fW5⟩ := intsCell HS5.out.hF (j := bN) (by rw [feedG_len]; exact hbl)
            clear h5 hW5 d2 d3 fW
            go_wp2_with fail
            refine wp_region_tail (fun W => W.cell? ⟨w.heap.size, 3, none⟩ = some (.slice (some ⟨bt, ot, none⟩) N.gens.length cg) ∧ W.cell? ⟨bt, ot + k * 5 + 1, none⟩ = some (.int .i64 (bN : Int)) ∧ W.cell? ⟨bp, op + k, none⟩ = some (.int .i64 p) ∧ W.cell? ⟨F, bN, none⟩ = some (.int .i64 z)) 15 (by kernel_rfl) ?_
            refine wpAnyD_takeAt 0 (some 53) (v := ?_) rfl (by kernel_rfl) (by kernel_rfl) (by kernel_rfl) (by kernel_rfl) (by kernel_rfl) (fun _ _ _ h => h) (by exact ⟨c3, d1, d5, cW⟩) (fun o hop => ?_) ?_
            rotate_left
            · injection hop with hop
              subst hop
              refine ⟨rfl, fun W hW => ?_⟩
              obtain ⟨s0, s1, s2, s3⟩ := hW
              go_simp
              first
              | rfl
              | rw [if_neg (by omega)]
            try simp only [Act.put, List.setIfInBounds_toArray, List.set_cons_zero, List.set_cons_succ]
            refine wpAnyD_takeAt 1 (some 54) (v := ?_) rfl (by kernel_rfl) (by kernel_rfl) (by kernel_rfl) (by kernel_rfl) (by kernel_rfl) (fun _ _ _ h => h) (by exact ⟨c3, d1, d5, cW⟩) (fun o hop => ?_) ?_
            rotate_left
            · injection hop with hop
              subst hop
              refine ⟨rfl, fun W hW => ?_⟩
              obtain ⟨s0, s1, s2, s3⟩ := hW
              go_simp
              first
              | rfl
              | rw [if_neg (by omega)]
            try simp only [Act.put, List.setIfInBounds_toArray, List.set_cons_zero, List.set_cons_succ]
            refine wpAnyD_takeAt 2 (some 55) (v := ?_) rfl (by kernel_rfl) (by kernel_rfl) (by kernel_rfl) (by kernel_rfl) (by kernel_rfl) (fun _ _ _ h => h) (by exact ⟨c3, d1, d5, cW⟩) (fun o hop => ?_) ?_
            rotate_left
            · injection hop with hop
              subst hop
              refine ⟨rfl, fun W hW => ?_⟩
              obtain ⟨s0, s1, s2, s3⟩ := hW
              go_simp
              first
              | rfl
              | rw [if_neg (by omega)]
            try simp only [Act.put, List.setIfInBounds_toArray, List.set_cons_zero, List.set_cons_succ]
            refine wpAnyD_takeAt 3 (some 56) (v := ?_) rfl (by kernel_rfl) (by kernel_rfl) (by kernel_rfl) (by kernel_rfl) (by kernel_rfl) (fun _ _ _ h => h) (by exact ⟨c3, d1, d5, cW⟩) (fun o hop => ?_) ?_
            rotate_left
            · injection hop with hop
              subst hop
              refine ⟨rfl, fun W hW => ?_⟩
              obtain ⟨s0, s1, s2, s3⟩ := hW
              go_simp
              first
              | rfl
              | rw [if_neg (by omega)]
            try simp only [Act.put, List.setIfInBounds_toArray, List.set_cons_zero, List.set_cons_succ]
            refine wpAnyD_takeAt 4 (some 57) (v := ?_) rfl (by kernel_rfl) (by kernel_rfl) (by kernel_rfl) (by kernel_rfl) (by kernel_rfl) (fun _ _ _ h => h) (by exact ⟨c3, d1, d5, cW⟩) (fun o hop => ?_) ?_
            rotate_left
            · injection hop with hop
              subst hop
              refine ⟨rfl, fun W hW => ?_⟩
              obtain ⟨s0, s1, s2, s3⟩ := hW
              go_simp
              first
              | rfl
              | rw [if_neg (by omega)]
            try simp only [Act.put, List.setIfInBounds_toArray, List.set_cons_zero, List.set_cons_succ]
            refine wpAnyD_takeAt 5 (some 58) (v := ?_) rfl (by kernel_rfl) (by kernel_rfl) (by kernel_rfl) (by kernel_rfl) (by kernel_rfl) (fun _ _ _ h => h) (by exact ⟨c3, d1, d5, cW⟩) (fun o hop => ?_) ?_
            rotate_left
            · injection hop with hop
              subst hop
              refine ⟨rfl, fun W hW => ?_⟩
              obtain ⟨s0, s1, s2, s3⟩ := hW
              go_simp
              first
              | rfl
              | rw [if_neg (by omega)]
            try simp only [Act.put, List.setIfInBounds_toArray, List.set_cons_zero, List.set_cons_succ]
            refine wpAnyD_takeAt 6 (some 59) (v := ?_) rfl (by kernel_rfl) (by kernel_rfl) (by kernel_rfl) (by kernel_rfl) (by kernel_rfl) (fun _ _ _ h => h) (by exact ⟨c3, d1, d5, cW⟩) (fun o hop => ?_) ?_
            rotate_left
            · injection hop with hop
              subst hop
              refine ⟨rfl, fun W hW => ?_⟩
              obtain ⟨s0, s1, s2, s3⟩ := hW
              go_simp
              first
              | rfl
              | rw [if_neg (by omega)]
            try simp only [Act.put, List.setIfInBounds_toArray, List.set_cons_zero, List.set_cons_succ]
            refine wpAnyD_takeAt 7 (some 60) (v := ?_) rfl (by kernel_rfl) (by kernel_rfl) (by kernel_rfl) (by kernel_rfl) (by kernel_rfl) (fun _ _ _ h => h) (by exact ⟨c3, d1, d5, cW⟩) (fun o hop => ?_) ?_
            rotate_left
            · injection hop with hop
              subst hop
              refine ⟨rfl, fun W hW => ?_⟩
              obtain ⟨s0, s1, s2, s3⟩ := hW
              go_simp
              first
              | rfl
              | rw [if_neg (by omega)]
            try simp only [Act.put, List.setIfInBounds_toArray, List.set_cons_zero, List.set_cons_succ]
            refine wpAnyD_takeAt 8 (some 61) (v := ?_) rfl (by kernel_rfl) (by kernel_rfl) (by kernel_rfl) (by kernel_rfl) (by kernel_rfl) (fun _ _ _ h => h) (by exact ⟨c3, d1, d5, cW⟩) (fun o hop => ?_) ?_
            rotate_left
            · injection hop with hop
              subst hop
              refine ⟨rfl, fun W hW => ?_⟩
              obtain ⟨s0, s1, s2, s3⟩ := hW
              go_simp
              first
              | rfl
              | rw [if_neg (by omega)]
            try simp only [Act.put, List.setIfInBounds_toArray, List.set_cons_zero, List.set_cons_succ]
            refine wpAnyD_takeAt 9 (some 62) (v := ?_) rfl (by kernel_rfl) (by kernel_rfl) (by kernel_rfl) (by kernel_rfl) (by kernel_rfl) (fun _ _ _ h => h) (by exact ⟨c3, d1, d5, cW⟩) (fun o hop => ?_) ?_
            rotate_left
            · injection hop with hop
              subst hop
              refine ⟨rfl, fun W hW => ?_⟩
              obtain ⟨s0, s1, s2, s3⟩ := hW
              go_simp
              first
              | rfl
              | rw [if_neg (by omega)]
            try simp only [Act.put, List.setIfInBounds_toArray, List.set_cons_zero, List.set_cons_succ]
            refine wpAnyD_takeAt 10 (some 63) (v := ?_) rfl (by kernel_rfl) (by kernel_rfl) (by kernel_rfl) (by kernel_rfl) (by kernel_rfl) (fun _ _ _ h => h) (by exact ⟨c3, d1, d5, cW⟩) (fun o hop => ?_) ?_
            rotate_left
            · injection hop with hop
              subst hop
              refine ⟨rfl, fun W hW => ?_⟩
              obtain ⟨s0, s1, s2, s3⟩ := hW
              go_simp
              first
              | rfl
              | rw [if_neg (by omega)]
            try simp only [Act.put, List.setIfInBounds_toArray, List.set_cons_zero, List.set_cons_succ]
            refine wpAnyD_takeAt 11 (some 64) (v := ?_) rfl (by kernel_rfl) (by kernel_rfl) (by kernel_rfl) (by kernel_rfl) (by kernel_rfl) (fun _ _ _ h => h) (by exact ⟨c3, d1, d5, cW⟩) (fun o hop => ?_) ?_
            rotate_left
            · injection hop with hop
              subst hop
              refine ⟨rfl, fun W hW => ?_⟩
              obtain ⟨s0, s1, s2, s3⟩ := hW
              go_simp
              first
              | rfl
              | rw [if_neg (by omega)]
            try simp only [Act.put, List.setIfInBounds_toArray, List.set_cons_zero, List.set_cons_succ]
            refine wpAnyD_takeAt 12 (some 65) (v := ?_) rfl (by kernel_rfl) (by kernel_rfl) (by kernel_rfl) (by kernel_rfl) (by kernel_rfl) (fun _ _ _ h => h) (by exact ⟨c3, d1, d5, cW⟩) (fun o hop => ?_) ?_
            rotate_left
            · injection hop with hop
              subst hop
              refine ⟨rfl, fun W hW => ?_⟩
              obtain ⟨s0, s1, s2, s3⟩ := hW
              go_simp
              first
              | rfl
              | rw [if_neg (by omega)]
            try simp only [Act.put, List.setIfInBounds_toArray, List.set_cons_zero, List.set_cons_succ]
            refine wpAnyD_takeAt 13 (some 66) (v := ?_) rfl (by kernel_rfl) (by kernel_rfl) (by kernel_rfl) (by kernel_rfl) (by kernel_rfl) (fun _ _ _ h => h) (by exact ⟨c3, d1, d5, cW⟩) (fun o hop => ?_) ?_
            rotate_left
            · injection hop with hop
              subst hop
              refine ⟨rfl, fun W hW => ?_⟩
              obtain ⟨s0, s1, s2, s3⟩ := hW
              go_simp
              first
              | rfl
              | rw [if_neg (by omega)]
            try simp only [Act.put, List.setIfInBounds_toArray, List.set_cons_zero, List.set_cons_succ]
            refine wpAnyD_takeAt 14 (some 67) (v := ?_) rfl (by kernel_rfl) (by kernel_rfl) (by kernel_rfl) (by kernel_rfl) (by kernel_rfl) (fun _ _ _ h => h) (by exact ⟨c3, d1, d5, cW⟩) (fun o hop => ?_) ?_
            rotate_left
            · injection hop with hop
              subst hop
              refine ⟨rfl, fun W hW => ?_⟩
              obtain ⟨s0, s1, s2, s3⟩ := hW
              go_simp
              first
              | rfl
              | rw [if_neg (by omega)]
            try simp only [Act.put, List.setIfInBounds_toArray, List.set_cons_zero, List.set_cons_succ]
            refine wpAnyT_one (i := 15) (by kernel_rfl) rfl rfl (fun K' hK => ?_)
            go_simp
            refine hK.out _ _ (fun h => absurd rfl h) ?_
            clear hK K'
            refine wpAnyT_done (by kernel_rfl) ?_ _
            have HS6 : Hid (JSt w (W5.setCell ⟨F, bN, none⟩ (.int .i64 (wrap64 (z + p)))).drew F #[.string N.name, .slice ab N.buses.length cb, .slice al N.lines.length cl, .slice (some ⟨bt, ot, none⟩) N.gens.length cg, .slice ad N.loads.length cd, .slice at' N.ties.length ct] (feedG N.gens plan N.buses.length (k + 1))) := by
              rw [HSTEP.out]
              exact (HS5.out.set bN _).drew
            clear c3 d1 d5 cW fW5
            go_wp2
            exact ⟨⟨k + 1, by go_num, by omega, HNEXT.out (HYES.out), HS6⟩, by simp [intOf]; omega⟩
          · have hb0 : (p != 0) = true := bne_iff_ne.2 hp0
            by_cases hib : (decide (x2 ≤ p) && decide (p ≤ x3)) = true
            · have HYES : Hid (OkG g p) := HOG.out.2 (.inr (by simpa using hib))
              have HIB : Hid (∀ w, Calls Tryz.prog 13 #[.int .i64 p, .int .i64 x2, .int .i64 x3] w fun e w' => e = .returned (.bool true) ∧ w' = w) := fun w => by have := inBounds_any p x2 x3 w; rw [hib] at this; exact this
              clear hp0 hib
              go_quiet (first | (go_at_call 13; exact Calls.quiet_of_same (HIB.out _)))
              obtain ⟨W5, hW5⟩ : ∃ W5, W5 = wr.drewN nq := ⟨_, rfl⟩
              rw [← hW5]
              have HS5 : Hid (JSt w W5 F #[.string N.name, .slice ab N.buses.length cb, .slice al N.lines.length cl, .slice (some ⟨bt, ot, none⟩) N.gens.length cg, .slice ad N.loads.length cd, .slice at' N.ties.length ct] (feedG N.gens plan N.buses.length k)) := by rw [hW5]; exact HST.out.drewN nq
              have h5 : ∀ (c : Addr) (u : Value), wr.cell? c = some u → W5.cell? c = some u := fun c u h => by rw [hW5]; exact ((below_drewN (Below.refl _ wr) nq).cell (World.block_lt_of_cell? wr _ h)).trans h
              replace c3 := h5 _ _ c3
              replace d1 := h5 _ _ d1
              replace d5 := h5 _ _ d5
              replace cW := h5 _ _ cW
              obtain ⟨-, fW5⟩ := intsCell HS5.out.hF (j := bN) (by rw [feedG_len]; exact hbl)
              clear h5 hW5 d2 d3 fW
              go_wp2_with fail
              refine wp_region_tail (fun W => W.cell? ⟨w.heap.size, 3, none⟩ = some (.slice (some ⟨bt, ot, none⟩) N.gens.length cg) ∧ W.cell? ⟨bt, ot + k * 5 + 1, none⟩ = some (.int .i64 (bN : Int)) ∧ W.cell? ⟨bp, op + k, none⟩ = some (.int .i64 p) ∧ W.cell? ⟨F, bN, none⟩ = some (.int .i64 z)) 15 (by kernel_rfl) ?_
              refine wpAnyD_takeAt 0 (some 53) (v := ?_) rfl (by kernel_rfl) (by kernel_rfl) (by kernel_rfl) (by kernel_rfl) (by kernel_rfl) (fun _ _ _ h => h) (by exact ⟨c3, d1, d5, cW⟩) (fun o hop => ?_) ?_
              rotate_left
              · injection hop with hop
                subst hop
                refine ⟨rfl, fun W hW => ?_⟩
                obtain ⟨s0, s1, s2, s3⟩ := hW
                go_simp
                first
                | rfl
                | rw [if_neg (by omega)]
              try simp only [Act.put, List.setIfInBounds_toArray, List.set_cons_zero, List.set_cons_succ]
              refine wpAnyD_takeAt 1 (some 54) (v := ?_) rfl (by kernel_rfl) (by kernel_rfl) (by kernel_rfl) (by kernel_rfl) (by kernel_rfl) (fun _ _ _ h => h) (by exact ⟨c3, d1, d5, cW⟩) (fun o hop => ?_) ?_
              rotate_left
              · injection hop with hop
                subst hop
                refine ⟨rfl, fun W hW => ?_⟩
                obtain ⟨s0, s1, s2, s3⟩ := hW
                go_simp
                first
                | rfl
                | rw [if_neg (by omega)]
              try simp only [Act.put, List.setIfInBounds_toArray, List.set_cons_zero, List.set_cons_succ]
              refine wpAnyD_takeAt 2 (some 55) (v := ?_) rfl (by kernel_rfl) (by kernel_rfl) (by kernel_rfl) (by kernel_rfl) (by kernel_rfl) (fun _ _ _ h => h) (by exact ⟨c3, d1, d5, cW⟩) (fun o hop => ?_) ?_
              rotate_left
              · injection hop with hop
                subst hop
                refine ⟨rfl, fun W hW => ?_⟩
                obtain ⟨s0, s1, s2, s3⟩ := hW
                go_simp
                first
                | rfl
                | rw [if_neg (by omega)]
              try simp only [Act.put, List.setIfInBounds_toArray, List.set_cons_zero, List.set_cons_succ]
              refine wpAnyD_takeAt 3 (some 56) (v := ?_) rfl (by kernel_rfl) (by kernel_rfl) (by kernel_rfl) (by kernel_rfl) (by kernel_rfl) (fun _ _ _ h => h) (by exact ⟨c3, d1, d5, cW⟩) (fun o hop => ?_) ?_
              rotate_left
              · injection hop with hop
                subst hop
                refine ⟨rfl, fun W hW => ?_⟩
                obtain ⟨s0, s1, s2, s3⟩ := hW
                go_simp
                first
                | rfl
                | rw [if_neg (by omega)]
              try simp only [Act.put, List.setIfInBounds_toArray, List.set_cons_zero, List.set_cons_succ]
              refine wpAnyD_takeAt 4 (some 57) (v := ?_) rfl (by kernel_rfl) (by kernel_rfl) (by kernel_rfl) (by kernel_rfl) (by kernel_rfl) (fun _ _ _ h => h) (by exact ⟨c3, d1, d5, cW⟩) (fun o hop => ?_) ?_
              rotate_left
              · injection hop with hop
                subst hop
                refine ⟨rfl, fun W hW => ?_⟩
                obtain ⟨s0, s1, s2, s3⟩ := hW
                go_simp
                first
                | rfl
                | rw [if_neg (by omega)]
              try simp only [Act.put, List.setIfInBounds_toArray, List.set_cons_zero, List.set_cons_succ]
              refine wpAnyD_takeAt 5 (some 58) (v := ?_) rfl (by kernel_rfl) (by kernel_rfl) (by kernel_rfl) (by kernel_rfl) (by kernel_rfl) (fun _ _ _ h => h) (by exact ⟨c3, d1, d5, cW⟩) (fun o hop => ?_) ?_
              rotate_left
              · injection hop with hop
                subst hop
                refine ⟨rfl, fun W hW => ?_⟩
                obtain ⟨s0, s1, s2, s3⟩ := hW
                go_simp
                first
                | rfl
                | rw [if_neg (by omega)]
              try simp only [Act.put, List.setIfInBounds_toArray, List.set_cons_zero, List.set_cons_succ]
              refine wpAnyD_takeAt 6 (some 59) (v := ?_) rfl (by kernel_rfl) (by kernel_rfl) (by kernel_rfl) (by kernel_rfl) (by kernel_rfl) (fun _ _ _ h => h) (by exact ⟨c3, d1, d5, cW⟩) (fun o hop => ?_) ?_
              rotate_left
              · injection hop with hop
                subst hop
                refine ⟨rfl, fun W hW => ?_⟩
                obtain ⟨s0, s1, s2, s3⟩ := hW
                go_simp
                first
                | rfl
                | rw [if_neg (by omega)]
              try simp only [Act.put, List.setIfInBounds_toArray, List.set_cons_zero, List.set_cons_succ]
              refine wpAnyD_takeAt 7 (some 60) (v := ?_) rfl (by kernel_rfl) (by kernel_rfl) (by kernel_rfl) (by kernel_rfl) (by kernel_rfl) (fun _ _ _ h => h) (by exact ⟨c3, d1, d5, cW⟩) (fun o hop => ?_) ?_
              rotate_left
              · injection hop with hop
                subst hop
                refine ⟨rfl, fun W hW => ?_⟩
                obtain ⟨s0, s1, s2, s3⟩ := hW
                go_simp
                first
                | rfl
                | rw [if_neg (by omega)]
              try simp only [Act.put, List.setIfInBounds_toArray, List.set_cons_zero, List.set_cons_succ]
              refine wpAnyD_takeAt 8 (some 61) (v := ?_) rfl (by kernel_rfl) (by kernel_rfl) (by kernel_rfl) (by kernel_rfl) (by kernel_rfl) (fun _ _ _ h => h) (by exact ⟨c3, d1, d5, cW⟩) (fun o hop => ?_) ?_
              rotate_left
              · injection hop with hop
                subst hop
                refine ⟨rfl, fun W hW => ?_⟩
                obtain ⟨s0, s1, s2, s3⟩ := hW
                go_simp
                first
                | rfl
                | rw [if_neg (by omega)]
              try simp only [Act.put, List.setIfInBounds_toArray, List.set_cons_zero, List.set_cons_succ]
              refine wpAnyD_takeAt 9 (some 62) (v := ?_) rfl (by kernel_rfl) (by kernel_rfl) (by kernel_rfl) (by kernel_rfl) (by kernel_rfl) (fun _ _ _ h => h) (by exact ⟨c3, d1, d5, cW⟩) (fun o hop => ?_) ?_
              rotate_left
              · injection hop with hop
                subst hop
                refine ⟨rfl, fun W hW => ?_⟩
                obtain ⟨s0, s1, s2, s3⟩ := hW
                go_simp
                first
                | rfl
                | rw [if_neg (by omega)]
              try simp only [Act.put, List.setIfInBounds_toArray, List.set_cons_zero, List.set_cons_succ]
              refine wpAnyD_takeAt 10 (some 63) (v := ?_) rfl (by kernel_rfl) (by kernel_rfl) (by kernel_rfl) (by kernel_rfl) (by kernel_rfl) (fun _ _ _ h => h) (by exact ⟨c3, d1, d5, cW⟩) (fun o hop => ?_) ?_
              rotate_left
              · injection hop with hop
                subst hop
                refine ⟨rfl, fun W hW => ?_⟩
                obtain ⟨s0, s1, s2, s3⟩ := hW
                go_simp
                first
                | rfl
                | rw [if_neg (by omega)]
              try simp only [Act.put, List.setIfInBounds_toArray, List.set_cons_zero, List.set_cons_succ]
              refine wpAnyD_takeAt 11 (some 64) (v := ?_) rfl (by kernel_rfl) (by kernel_rfl) (by kernel_rfl) (by kernel_rfl) (by kernel_rfl) (fun _ _ _ h => h) (by exact ⟨c3, d1, d5, cW⟩) (fun o hop => ?_) ?_
              rotate_left
              · injection hop with hop
                subst hop
                refine ⟨rfl, fun W hW => ?_⟩
                obtain ⟨s0, s1, s2, s3⟩ := hW
                go_simp
                first
                | rfl
                | rw [if_neg (by omega)]
              try simp only [Act.put, List.setIfInBounds_toArray, List.set_cons_zero, List.set_cons_succ]
              refine wpAnyD_takeAt 12 (some 65) (v := ?_) rfl (by kernel_rfl) (by kernel_rfl) (by kernel_rfl) (by kernel_rfl) (by kernel_rfl) (fun _ _ _ h => h) (by exact ⟨c3, d1, d5, cW⟩) (fun o hop => ?_) ?_
              rotate_left
              · injection hop with hop
                subst hop
                refine ⟨rfl, fun W hW => ?_⟩
                obtain ⟨s0, s1, s2, s3⟩ := hW
                go_simp
                first
                | rfl
                | rw [if_neg (by omega)]
              try simp only [Act.put, List.setIfInBounds_toArray, List.set_cons_zero, List.set_cons_succ]
              refine wpAnyD_takeAt 13 (some 66) (v := ?_) rfl (by kernel_rfl) (by kernel_rfl) (by kernel_rfl) (by kernel_rfl) (by kernel_rfl) (fun _ _ _ h => h) (by exact ⟨c3, d1, d5, cW⟩) (fun o hop => ?_) ?_
              rotate_left
              · injection hop with hop
                subst hop
                refine ⟨rfl, fun W hW => ?_⟩
                obtain ⟨s0, s1, s2, s3⟩ := hW
                go_simp
                first
                | rfl
                | rw [if_neg (by omega)]
              try simp only [Act.put, List.setIfInBounds_toArray, List.set_cons_zero, List.set_cons_succ]
              refine wpAnyD_takeAt 14 (some 67) (v := ?_) rfl (by kernel_rfl) (by kernel_rfl) (by kernel_rfl) (by kernel_rfl) (by kernel_rfl) (fun _ _ _ h => h) (by exact ⟨c3, d1, d5, cW⟩) (fun o hop => ?_) ?_
              rotate_left
              · injection hop with hop
                subst hop
                refine ⟨rfl, fun W hW => ?_⟩
                obtain ⟨s0, s1, s2, s3⟩ := hW
                go_simp
                first
                | rfl
                | rw [if_neg (by omega)]
              try simp only [Act.put, List.setIfInBounds_toArray, List.set_cons_zero, List.set_cons_succ]
              refine wpAnyT_one (i := 15) (by kernel_rfl) rfl rfl (fun K' hK => ?_)
              go_simp
              refine hK.out _ _ (fun h => absurd rfl h) ?_
              clear hK K'
              refine wpAnyT_done (by kernel_rfl) ?_ _
              have HS6 : Hid (JSt w (W5.setCell ⟨F, bN, none⟩ (.int .i64 (wrap64 (z + p)))).drew F #[.string N.name, .slice ab N.buses.length cb, .slice al N.lines.length cl, .slice (some ⟨bt, ot, none⟩) N.gens.length cg, .slice ad N.loads.length cd, .slice at' N.ties.length ct] (feedG N.gens plan N.buses.length (k + 1))) := by
                rw [HSTEP.out]
                exact (HS5.out.set bN _).drew
              clear c3 d1 d5 cW fW5
              go_wp2
              exact ⟨⟨k + 1, by go_num, by omega, HNEXT.out (HYES.out), HS6⟩, by simp [intOf]; omega⟩
            · have HNO : Hid (¬ OkG g p) := fun h => by
                rcases HOG.out.1 h with h | h
                · exact hp0 h
                · exact hib (by simpa using h)
              have HIB : Hid (∀ w, Calls Tryz.prog 13 #[.int .i64 p, .int .i64 x2, .int .i64 x3] w fun e w' => e = .returned (.bool false) ∧ w' = w) := fun w => by have := inBounds_any p x2 x3 w; rw [Bool.eq_false_iff.2 hib] at this; exact this
              clear hp0 hib
              go_quiet (first | (go_at_call 13; exact Calls.quiet_of_same (HIB.out _)))
              go_wp2
              refine bodyPost_ret (results_tmp2 rfl _ _ _) rfl ?_
              exact FeedsAs.range HMay.out HE.out (HBAD.out HNO.out) (answers_nil (below_drewN HST.out.bel _))
        · have HABLE : Hid (AbleM N.gens plan) := fun j g hj => HOK.out j g (by have := (List.getElem?_eq_some_iff.1 hj).1; omega) hj
          have hkn : k = N.gens.length := by omega
          subst hkn
          clear HOK hk hlt
          go_wp2_with fail
          go_loopw [8] (fun i wr => ∃ (k : Nat), i = .int .i64 k ∧ k ≤ N.loads.length ∧ Hid (JSt w wr F #[.string N.name, .slice ab N.buses.length cb, .slice al N.lines.length cl, .slice ag N.gens.length cg, .slice ad N.loads.length cd, .slice at' N.ties.length ct] (feedD N.loads (feedG N.gens plan N.buses.length N.gens.length) k))) (fun i _ => N.loads.length - (intOf i).toNat)
          case atStart => exact ⟨0, rfl, Nat.zero_le _, HST⟩
          case round =>
            clear HST
            obtain ⟨k, rfl, hk, HST⟩ := hrel
            by_cases hlt : k < N.loads.length
            · obtain ⟨bt, ot, ct', ex, hbt, hct⟩ := row_elem (f := LoadM.cells) (fun _ => rfl) HLO.out k hlt (by decide)
              cases ex
              obtain ⟨g, hgk⟩ : ∃ g, g = N.loads[k] := ⟨_, rfl⟩
              rw [← hgk] at hct
              have HK : Hid (N.loads[k]? = some g) := by show _ = _; rw [hgk]; exact List.getElem?_eq_getElem hlt
              have hte := HMay.out.loads g (by rw [hgk]; exact List.getElem_mem hlt)
              obtain ⟨bN, hbN⟩ := Int.eq_ofNat_of_zero_le hte.1
              have hbl : bN < N.buses.length := by omega
              have up : ∀ (c j : Nat) (u : Value), w.cell? ⟨c, j, none⟩ = some u → wr.cell? ⟨c, j, none⟩ = some u := fun c j u h => (HST.out.bel.cell (World.block_lt_of_cell? w _ h)).trans h
              have hc1 := hct 1 _ rfl
              rw [hbN] at hc1
              have d1 := up _ _ _ hc1
              have d2 := up _ _ _ (hct 2 _ rfl)
              obtain ⟨p, hpk⟩ : ∃ p, p = g.power := ⟨_, rfl⟩
              rw [← hpk] at d2
              have c4 : wr.cell? ⟨w.heap.size, 4, none⟩ = some (.slice (some ⟨bt, ot, none⟩) N.loads.length cd) := by simp only [World.cell?, HST.out.box]; rfl
              obtain ⟨cW, fW⟩ := intsCell HST.out.hF (j := bN) (by rw [feedD_len, feedG_len]; exact hbl)
              obtain ⟨z, hz⟩ : ∃ z, z = (feedD N.loads (feedG N.gens plan N.buses.length N.gens.length) k).getD bN 0 := ⟨_, rfl⟩
              rw [← hz] at cW
              have HSTEP := hide' (feedD_step HK.out hbN hz hpk)
              clear hct hgk hpk up hbt hc1 hbN hte hz
              go_wp2_with fail
              refine wp_region_tail (fun W => W.cell? ⟨w.heap.size, 4, none⟩ = some (.slice (some ⟨bt, ot, none⟩) N.loads.length cd) ∧ W.cell? ⟨bt, ot + k * 3 + 1, none⟩ = some (.int .i64 (bN : Int)) ∧ W.cell? ⟨bt, ot + k * 3 + 2, none⟩ = some (.int .i64 p) ∧ W.cell? ⟨F, bN, none⟩ = some (.int .i64 z)) 17 (by kernel_rfl) ?_
              refine wpAnyD_takeAt 0 (some 75) (v := ?_) rfl (by kernel_rfl) (by kernel_rfl) (by kernel_rfl) (by kernel_rfl) (by kernel_rfl) (fun _ _ _ h => h) (by exact ⟨c4, d1, d2, cW⟩) (fun o hop => ?_) ?_
              rotate_left
              · injection hop with hop
                subst hop
                refine ⟨rfl, fun W hW => ?_⟩
                obtain ⟨s0, s1, s2, s3⟩ := hW
                go_simp
                first
                | rfl
                | rw [if_neg (by omega)]
              try simp only [Act.put, List.setIfInBounds_toArray, List.set_cons_zero, List.set_cons_succ]
              refine wpAnyD_takeAt 1 (some 76) (v := ?_) rfl (by kernel_rfl) (by kernel_rfl) (by kernel_rfl) (by kernel_rfl) (by kernel_rfl) (fun _ _ _ h => h) (by exact ⟨c4, d1, d2, cW⟩) (fun o hop => ?_) ?_
              rotate_left
              · injection hop with hop
                subst hop
                refine ⟨rfl, fun W hW => ?_⟩
                obtain ⟨s0, s1, s2, s3⟩ := hW
                go_simp
                first
                | rfl
                | rw [if_neg (by omega)]
              try simp only [Act.put, List.setIfInBounds_toArray, List.set_cons_zero, List.set_cons_succ]
              refine wpAnyD_takeAt 2 (some 77) (v := ?_) rfl (by kernel_rfl) (by kernel_rfl) (by kernel_rfl) (by kernel_rfl) (by kernel_rfl) (fun _ _ _ h => h) (by exact ⟨c4, d1, d2, cW⟩) (fun o hop => ?_) ?_
              rotate_left
              · injection hop with hop
                subst hop
                refine ⟨rfl, fun W hW => ?_⟩
                obtain ⟨s0, s1, s2, s3⟩ := hW
                go_simp
                first
                | rfl
                | rw [if_neg (by omega)]
              try simp only [Act.put, List.setIfInBounds_toArray, List.set_cons_zero, List.set_cons_succ]
              refine wpAnyD_takeAt 3 (some 78) (v := ?_) rfl (by kernel_rfl) (by kernel_rfl) (by kernel_rfl) (by kernel_rfl) (by kernel_rfl) (fun _ _ _ h => h) (by exact ⟨c4, d1, d2, cW⟩) (fun o hop => ?_) ?_
              rotate_left
              · injection hop with hop
                subst hop
                refine ⟨rfl, fun W hW => ?_⟩
                obtain ⟨s0, s1, s2, s3⟩ := hW
                go_simp
                first
                | rfl
                | rw [if_neg (by omega)]
              try simp only [Act.put, List.setIfInBounds_toArray, List.set_cons_zero, List.set_cons_succ]
              refine wpAnyD_takeAt 4 (some 79) (v := ?_) rfl (by kernel_rfl) (by kernel_rfl) (by kernel_rfl) (by kernel_rfl) (by kernel_rfl) (fun _ _ _ h => h) (by exact ⟨c4, d1, d2, cW⟩) (fun o hop => ?_) ?_
              rotate_left
              · injection hop with hop
                subst hop
                refine ⟨rfl, fun W hW => ?_⟩
                obtain ⟨s0, s1, s2, s3⟩ := hW
                go_simp
                first
                | rfl
                | rw [if_neg (by omega)]
              try simp only [Act.put, List.setIfInBounds_toArray, List.set_cons_zero, List.set_cons_succ]
              refine wpAnyD_takeAt 5 (some 80) (v := ?_) rfl (by kernel_rfl) (by kernel_rfl) (by kernel_rfl) (by kernel_rfl) (by kernel_rfl) (fun _ _ _ h => h) (by exact ⟨c4, d1, d2, cW⟩) (fun o hop => ?_) ?_
              rotate_left
              · injection hop with hop
                subst hop
                refine ⟨rfl, fun W hW => ?_⟩
                obtain ⟨s0, s1, s2, s3⟩ := hW
                go_simp
                first
                | rfl
                | rw [if_neg (by omega)]
              try simp only [Act.put, List.setIfInBounds_toArray, List.set_cons_zero, List.set_cons_succ]
              refine wpAnyD_takeAt 6 (some 81) (v := ?_) rfl (by kernel_rfl) (by kernel_rfl) (by kernel_rfl) (by kernel_rfl) (by kernel_rfl) (fun _ _ _ h => h) (by exact ⟨c4, d1, d2, cW⟩) (fun o hop => ?_) ?_
              rotate_left
              · injection hop with hop
                subst hop
                refine ⟨rfl, fun W hW => ?_⟩
                obtain ⟨s0, s1, s2, s3⟩ := hW
                go_simp
                first
                | rfl
                | rw [if_neg (by omega)]
              try simp only [Act.put, List.setIfInBounds_toArray, List.set_cons_zero, List.set_cons_succ]
              refine wpAnyD_takeAt 7 (some 82) (v := ?_) rfl (by kernel_rfl) (by kernel_rfl) (by kernel_rfl) (by kernel_rfl) (by kernel_rfl) (fun _ _ _ h => h) (by exact ⟨c4, d1, d2, cW⟩) (fun o hop => ?_) ?_
              rotate_left
              · injection hop with hop
                subst hop
                refine ⟨rfl, fun W hW => ?_⟩
                obtain ⟨s0, s1, s2, s3⟩ := hW
                go_simp
                first
                | rfl
                | rw [if_neg (by omega)]
              try simp only [Act.put, List.setIfInBounds_toArray, List.set_cons_zero, List.set_cons_succ]
              refine wpAnyD_takeAt 8 (some 83) (v := ?_) rfl (by kernel_rfl) (by kernel_rfl) (by kernel_rfl) (by kernel_rfl) (by kernel_rfl) (fun _ _ _ h => h) (by exact ⟨c4, d1, d2, cW⟩) (fun o hop => ?_) ?_
              rotate_left
              · injection hop with hop
                subst hop
                refine ⟨rfl, fun W hW => ?_⟩
                obtain ⟨s0, s1, s2, s3⟩ := hW
                go_simp
                first
                | rfl
                | rw [if_neg (by omega)]
              try simp only [Act.put, List.setIfInBounds_toArray, List.set_cons_zero, List.set_cons_succ]
              refine wpAnyD_takeAt 9 (some 84) (v := ?_) rfl (by kernel_rfl) (by kernel_rfl) (by kernel_rfl) (by kernel_rfl) (by kernel_rfl) (fun _ _ _ h => h) (by exact ⟨c4, d1, d2, cW⟩) (fun o hop => ?_) ?_
              rotate_left
              · injection hop with hop
                subst hop
                refine ⟨rfl, fun W hW => ?_⟩
                obtain ⟨s0, s1, s2, s3⟩ := hW
                go_simp
                first
                | rfl
                | rw [if_neg (by omega)]
              try simp only [Act.put, List.setIfInBounds_toArray, List.set_cons_zero, List.set_cons_succ]
              refine wpAnyD_takeAt 10 (some 85) (v := ?_) rfl (by kernel_rfl) (by kernel_rfl) (by kernel_rfl) (by kernel_rfl) (by kernel_rfl) (fun _ _ _ h => h) (by exact ⟨c4, d1, d2, cW⟩) (fun o hop => ?_) ?_
              rotate_left
              · injection hop with hop
                subst hop
                refine ⟨rfl, fun W hW => ?_⟩
                obtain ⟨s0, s1, s2, s3⟩ := hW
                go_simp
                first
                | rfl
                | rw [if_neg (by omega)]
              try simp only [Act.put, List.setIfInBounds_toArray, List.set_cons_zero, List.set_cons_succ]
              refine wpAnyD_takeAt 11 (some 86) (v := ?_) rfl (by kernel_rfl) (by kernel_rfl) (by kernel_rfl) (by kernel_rfl) (by kernel_rfl) (fun _ _ _ h => h) (by exact ⟨c4, d1, d2, cW⟩) (fun o hop => ?_) ?_
              rotate_left
              · injection hop with hop
                subst hop
                refine ⟨rfl, fun W hW => ?_⟩
                obtain ⟨s0, s1, s2, s3⟩ := hW
                go_simp
                first
                | rfl
                | rw [if_neg (by omega)]
              try simp only [Act.put, List.setIfInBounds_toArray, List.set_cons_zero, List.set_cons_succ]
              refine wpAnyD_takeAt 12 (some 87) (v := ?_) rfl (by kernel_rfl) (by kernel_rfl) (by kernel_rfl) (by kernel_rfl) (by kernel_rfl) (fun _ _ _ h => h) (by exact ⟨c4, d1, d2, cW⟩) (fun o hop => ?_) ?_
              rotate_left
              · injection hop with hop
                subst hop
                refine ⟨rfl, fun W hW => ?_⟩
                obtain ⟨s0, s1, s2, s3⟩ := hW
                go_simp
                first
                | rfl
                | rw [if_neg (by omega)]
              try simp only [Act.put, List.setIfInBounds_toArray, List.set_cons_zero, List.set_cons_succ]
              refine wpAnyD_takeAt 13 (some 88) (v := ?_) rfl (by kernel_rfl) (by kernel_rfl) (by kernel_rfl) (by kernel_rfl) (by kernel_rfl) (fun _ _ _ h => h) (by exact ⟨c4, d1, d2, cW⟩) (fun o hop => ?_) ?_
              rotate_left
              · injection hop with hop
                subst hop
                refine ⟨rfl, fun W hW => ?_⟩
                obtain ⟨s0, s1, s2, s3⟩ := hW
                go_simp
                first
                | rfl
                | rw [if_neg (by omega)]
              try simp only [Act.put, List.setIfInBounds_toArray, List.set_cons_zero, List.set_cons_succ]
              refine wpAnyD_takeAt 14 (some 89) (v := ?_) rfl (by kernel_rfl) (by kernel_rfl) (by kernel_rfl) (by kernel_rfl) (by kernel_rfl) (fun _ _ _ h => h) (by exact ⟨c4, d1, d2, cW⟩) (fun o hop => ?_) ?_
              rotate_left
              · injection hop with hop
                subst hop
                refine ⟨rfl, fun W hW => ?_⟩
                obtain ⟨s0, s1, s2, s3⟩ := hW
                go_simp
                first
                | rfl
                | rw [if_neg (by omega)]
              try simp only [Act.put, List.setIfInBounds_toArray, List.set_cons_zero, List.set_cons_succ]
              refine wpAnyD_takeAt 15 (some 90) (v := ?_) rfl (by kernel_rfl) (by kernel_rfl) (by kernel_rfl) (by kernel_rfl) (by kernel_rfl) (fun _ _ _ h => h) (by exact ⟨c4, d1, d2, cW⟩) (fun o hop => ?_) ?_
              rotate_left
              · injection hop with hop
                subst hop
                refine ⟨rfl, fun W hW => ?_⟩
                obtain ⟨s0, s1, s2, s3⟩ := hW
                go_simp
                first
                | rfl
                | rw [if_neg (by omega)]
              try simp only [Act.put, List.setIfInBounds_toArray, List.set_cons_zero, List.set_cons_succ]
              refine wpAnyD_takeAt 16 (some 91) (v := ?_) rfl (by kernel_rfl) (by kernel_rfl) (by kernel_rfl) (by kernel_rfl) (by kernel_rfl) (fun _ _ _ h => h) (by exact ⟨c4, d1, d2, cW⟩) (fun o hop => ?_) ?_
              rotate_left
              · injection hop with hop
                subst hop
                refine ⟨rfl, fun W hW => ?_⟩
                obtain ⟨s0, s1, s2, s3⟩ := hW
                go_simp
                first
                | rfl
                | rw [if_neg (by omega)]
              try simp only [Act.put, List.setIfInBounds_toArray, List.set_cons_zero, List.set_cons_succ]
              refine wpAnyT_one (i := 17) (by kernel_rfl) rfl rfl (fun K' hK => ?_)
              go_simp
              refine hK.out _ _ (fun h => absurd rfl h) ?_
              clear hK K'
              refine wpAnyT_done (by kernel_rfl) ?_ _
              have HS6 : Hid (JSt w (wr.setCell ⟨F, bN, none⟩ (.int .i64 (wrap64 (z - p)))).drew F #[.string N.name, .slice ab N.buses.length cb, .slice al N.lines.length cl, .slice ag N.gens.length cg, .slice (some ⟨bt, ot, none⟩) N.loads.length cd, .slice at' N.ties.length ct] (feedD N.loads (feedG N.gens plan N.buses.length N.gens.length) (k + 1))) := by
                rw [HSTEP.out]
                exact (HST.out.set bN _).drew
              clear c4 d1 d2 cW fW
              go_wp2
              exact ⟨⟨k + 1, by go_num, by omega, HS6⟩, by simp [intOf]; omega⟩
            · have hkn : k = N.loads.length := by omega
              subst hkn
              have c4 : wr.cell? ⟨w.heap.size, 4, none⟩ = some (.slice ad N.loads.length cd) := by simp only [World.cell?, HST.out.box]; rfl
              go_wp2
              refine bodyPost_ret (results_tmp2 rfl _ _ _) rfl ?_
              exact FeedsAs.ok HMay.out HE.out HABLE.out ⟨_, rfl, HST.out.row (feedsL_len N plan), HST.out.bel⟩
    · have HE := hide' he
      have hne : ((plan.length : Int) == (N.gens.length : Int)) = false := beq_eq_false_iff_ne.2 (by omega)
      clear he
      go_wp2
      refine bodyPost_ret (results_tmp2 rfl _ _ _) rfl ?_
      exact FeedsAs.size HMay.out HE.out (answers_nil HX1.out.bel)
end Go.Proofs.YtakcpemboeekfadGreatDoor.Bar
