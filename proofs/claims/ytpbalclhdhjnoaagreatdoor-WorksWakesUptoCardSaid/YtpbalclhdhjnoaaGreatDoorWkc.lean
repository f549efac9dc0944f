/- How a world wakes, in the document's answer. -/
import Derived.Test.YtpbalclhdhjnoaaGreatDoorWk9
namespace Go.Proofs.YtpbalclhdhjnoaaGreatDoor.Bar
open Go.RowKit Go.Shelf Doc

/-- How far each bus is from the nearest one that starts. -/
def nearW (W : WorldM) (black : List Bool) : Nat → Nat := minD W.net.buses.length (targN W.net.buses.length (serviceL W.net W.out)) (srcL W.net.gens W.on black W.net.gens.length)
def wakeL (W : WorldM) (black : List Bool) : List Nat := lvls W.net.buses.length (nearW W black) W.net.buses.length
theorem srcL_lt {n : Nat} {gs : List GenM} {on black : List Bool} (h : ∀ g ∈ gs, 0 ≤ g.bus ∧ g.bus < n) : ∀ k, ∀ s ∈ srcL gs on black k, s < n
  | 0, s, hs => by cases hs
  | k + 1, s, hs => by
    have ih := srcL_lt (on := on) (black := black) h k s
    rw [srcL] at hs
    split at hs
    · next g hg =>
      split at hs
      · rcases List.mem_append.1 hs with hs | hs
        · exact ih hs
        · rw [List.mem_singleton.1 hs]
          have := h g (List.mem_of_getElem? hg)
          omega
      · exact ih hs
    · exact ih hs
theorem near_dist {W : WorldM} (hm : MayW W) (black : List Bool) : Dist W.net.buses.length (fun u k => Adj (serviceL W.net W.out) (u : Int) (k : Int)) (fun k => k ∈ srcL W.net.gens W.on black W.net.gens.length) (nearW W black) := by
  have hl := srcL_lt (on := W.on) (black := black) (fun g hg => (⟨(hm.1.gens g hg).1, (hm.1.gens g hg).2.1⟩ : 0 ≤ g.bus ∧ g.bus < W.net.buses.length)) W.net.gens.length
  by_cases h0 : 0 < W.net.buses.length
  · exact minD_dist h0 (fun s hs => targ_dist (service_ends (MayM.ends hm.1) _) (hl s hs))
  · exact ⟨fun k hk => absurd hk (by omega), fun k i hk => absurd hk (by omega), fun u v hu => absurd hu (by omega)⟩
theorem first_says {W : WorldM} (hm : MayW W) (black : List Bool) : Says W.net.buses.length (stL W.net.buses.length W.net.gens W.on black W.net.gens.length) (fun k => nearW W black k = 0 ∧ 0 < W.net.buses.length) := by
  refine ⟨stL_len _ _ _ _ _, fun k hk => ?_⟩
  rw [st_src _ _ _ _ k hk]
  have h1 := (near_dist hm black).zero k hk
  exact ⟨fun h => ⟨h1.2 h, by omega⟩, fun h => h1.1 h.1⟩
/-- What Wake answers. -/
def WakeO (W : WorldM) (black : List Bool) (w : World) (e : Ending) (w' : World) : Prop :=
  ((¬ MayW W ∧ e = .returned (.tuple #[.slice none 0 0, .int .i64 14])) ∨ (MayW W ∧ black.length ≠ W.net.gens.length ∧ e = .returned (.tuple #[.slice none 0 0, .int .i64 2])) ∨ (MayW W ∧ black.length = W.net.gens.length ∧ ∃ v, e = .returned (.tuple #[v, .int .i64 0]) ∧ w'.ownsRow w.heap.size 3 1 v (wakeL W black).length (ints (natI (wakeL W black))))) ∧ Below w.heap.size w w'
set_option maxRecDepth 100000 in
set_option maxHeartbeats 4000000 in
theorem Wake_any (W : WorldM) (a : WAddr) (B1 : Nat) (mx : Int) (black : List Bool) (bv : Value) (w : World) (hsm : SmallM W.net) (htb : TabAll w) (ho : Owns w B1 (.slice a.ab W.net.buses.length a.cb) (.slice a.al W.net.lines.length a.cl) (.slice a.ag W.net.gens.length a.cg) (.slice a.ad W.net.loads.length a.cd) (.slice a.at' W.net.ties.length a.ct) W.net) (hm : w.cell? ⟨1, 0, none⟩ = some (.int .i64 mx)) (hw : WorldAt w W a) (hb : RowAt w bv black.length 1 (black.map Value.bool)) (_hbl : black.length ≤ 2000000) :
    Calls Tryz.prog 4 #[.agg #[.string W.net.name, .slice a.ab W.net.buses.length a.cb, .slice a.al W.net.lines.length a.cl, .slice a.ag W.net.gens.length a.cg, .slice a.ad W.net.loads.length a.cd, .slice a.at' W.net.ties.length a.ct, .slice a.ao W.out.length a.co, .slice a.an W.on.length a.cn, .slice a.ap W.plan.length a.cp, .slice a.av W.given.length a.cv, .int .i64 W.now, .slice a.ae W.log.length a.ce], bv] w (WakeO W black w) := by
  obtain ⟨la, lc, rfl⟩ := rowAt_slice hb
  have HMY := hide' (fun z (hz : Below w.heap.size w z) => mayBe_any W a B1 mx z hsm (htb.later hz) (owns_down ho hz) (up_cell hz hm) (hw.down hz))
  have HST : Hid (MayW W → black.length = W.net.gens.length → ∀ z, Below w.heap.size w z → Calls Tryz.prog 11 #[.agg #[.string W.net.name, .slice a.ab W.net.buses.length a.cb, .slice a.al W.net.lines.length a.cl, .slice a.ag W.net.gens.length a.cg, .slice a.ad W.net.loads.length a.cd, .slice a.at' W.net.ties.length a.ct, .slice a.ao W.out.length a.co, .slice a.an W.on.length a.cn, .slice a.ap W.plan.length a.cp, .slice a.av W.given.length a.cv, .int .i64 W.now, .slice a.ae W.log.length a.ce], .slice la W.net.gens.length lc] z fun e w' => ∃ F, e = .returned (.slice (some ⟨F, 0, none⟩) W.net.buses.length W.net.buses.length) ∧ RowAt w' (.slice (some ⟨F, 0, none⟩) W.net.buses.length W.net.buses.length) W.net.buses.length 1 ((stL W.net.buses.length W.net.gens W.on black W.net.gens.length).map Value.bool) ∧ Below z.heap.size z w') := fun hy hbe z hz => by
    refine (starting_any W a W.net.buses.length rfl hy.1.fits (fun g hg => ⟨(hy.1.gens g hg).1, (hy.1.gens g hg).2.1⟩) hy.2.2.1.1 black la lc z (hw.down hz) (by have h1 := hb.down hz; rw [hbe] at h1; exact h1)).mono ?_
    rintro e w' ⟨F, rfl, hF, _, hbw⟩
    exact ⟨F, rfl, row_signs hF (stL_len _ _ _ _ _), hbw⟩
  have HSP : Hid (MayW W → ∀ z F, Below w.heap.size w z → RowAt z (.slice (some ⟨F, 0, none⟩) W.net.buses.length W.net.buses.length) W.net.buses.length 1 ((stL W.net.buses.length W.net.gens W.on black W.net.gens.length).map Value.bool) → Calls Tryz.prog 10 #[.agg #[.string W.net.name, .slice a.ab W.net.buses.length a.cb, .slice a.al W.net.lines.length a.cl, .slice a.ag W.net.gens.length a.cg, .slice a.ad W.net.loads.length a.cd, .slice a.at' W.net.ties.length a.ct, .slice a.ao W.out.length a.co, .slice a.an W.on.length a.cn, .slice a.ap W.plan.length a.cp, .slice a.av W.given.length a.cv, .int .i64 W.now, .slice a.ae W.log.length a.ce], .slice (some ⟨F, 0, none⟩) W.net.buses.length W.net.buses.length] z fun e w' => ∃ v, e = .returned v ∧ w'.ownsRow z.heap.size 3 1 v (wakeL W black).length (ints (natI (wakeL W black))) ∧ Below z.heap.size z w') := fun hy z F hz hr => spread_any W a W.net.buses.length rfl hy.1.fits (MayM.ends hy.1) hy.2.1 _ (nearW W black) (near_dist hy black) _ (first_says hy black) _ _ z (hw.down hz) hr
  obtain ⟨ab, al, ag, ad, at', ao, an, ap, av, ae, cb, cl, cg, cd, ct, co, cn, cp, cv, ce⟩ := a
  dsimp only at HMY HST HSP ⊢
  clear hsm htb ho hm hw hb
  go_enter Tryz.func4, Tryz.ntmps4
  go_upto_region 1 with fail
  have hqWb := alloc_new w (.cells #[.string W.net.name, .slice ab W.net.buses.length cb, .slice al W.net.lines.length cl, .slice ag W.net.gens.length cg, .slice ad W.net.loads.length cd, .slice at' W.net.ties.length ct, .slice ao W.out.length co, .slice an W.on.length cn, .slice ap W.plan.length cp, .slice av W.given.length cv, .int .i64 W.now, .slice ae W.log.length ce] 33)
  have hb1 := below_al w (.cells #[.string W.net.name, .slice ab W.net.buses.length cb, .slice al W.net.lines.length cl, .slice ag W.net.gens.length cg, .slice ad W.net.loads.length cd, .slice at' W.net.ties.length ct, .slice ao W.out.length co, .slice an W.on.length cn, .slice ap W.plan.length cp, .slice av W.given.length cv, .int .i64 W.now, .slice ae W.log.length ce] 33)
  obtain ⟨w1, hw1⟩ : ∃ x, x = (w.alloc (.cells #[.string W.net.name, .slice ab W.net.buses.length cb, .slice al W.net.lines.length cl, .slice ag W.net.gens.length cg, .slice ad W.net.loads.length cd, .slice at' W.net.ties.length ct, .slice ao W.out.length co, .slice an W.on.length cn, .slice ap W.plan.length cp, .slice av W.given.length cv, .int .i64 W.now, .slice ae W.log.length ce] 33)) := ⟨_, rfl⟩
  rw [← hw1] at hqWb hb1 ⊢
  obtain ⟨Wb, hnWb⟩ : ∃ x, x = w.heap.size := ⟨_, rfl⟩
  have HNE : Hid (w.heap.size ≤ Wb) := by show _ ≤ _; omega
  rw [← hnWb] at hqWb
  rw [show (Value.pointer (some { block := w.heap.size, off := 0 })) = Value.pointer (some { block := Wb, off := 0 }) by rw [hnWb]]
  have HQWb := hide' hqWb
  have HB1 := hide' hb1
  clear hqWb hb1 hw1 hnWb
  have g0 : w1.cell? ⟨Wb, 0, none⟩ = some (.string W.net.name) := (cells_at HQWb.out 0).trans rfl
  have g1 : w1.cell? ⟨Wb, 1, none⟩ = some (.slice ab W.net.buses.length cb) := (cells_at HQWb.out 1).trans rfl
  have g2 : w1.cell? ⟨Wb, 2, none⟩ = some (.slice al W.net.lines.length cl) := (cells_at HQWb.out 2).trans rfl
  have g3 : w1.cell? ⟨Wb, 3, none⟩ = some (.slice ag W.net.gens.length cg) := (cells_at HQWb.out 3).trans rfl
  have g4 : w1.cell? ⟨Wb, 4, none⟩ = some (.slice ad W.net.loads.length cd) := (cells_at HQWb.out 4).trans rfl
  have g5 : w1.cell? ⟨Wb, 5, none⟩ = some (.slice at' W.net.ties.length ct) := (cells_at HQWb.out 5).trans rfl
  have g6 : w1.cell? ⟨Wb, 6, none⟩ = some (.slice ao W.out.length co) := (cells_at HQWb.out 6).trans rfl
  have g7 : w1.cell? ⟨Wb, 7, none⟩ = some (.slice an W.on.length cn) := (cells_at HQWb.out 7).trans rfl
  have g8 : w1.cell? ⟨Wb, 8, none⟩ = some (.slice ap W.plan.length cp) := (cells_at HQWb.out 8).trans rfl
  have g9 : w1.cell? ⟨Wb, 9, none⟩ = some (.slice av W.given.length cv) := (cells_at HQWb.out 9).trans rfl
  have g10 : w1.cell? ⟨Wb, 10, none⟩ = some (.int .i64 W.now) := (cells_at HQWb.out 10).trans rfl
  have g11 : w1.cell? ⟨Wb, 11, none⟩ = some (.slice ae W.log.length ce) := (cells_at HQWb.out 11).trans rfl
  go_wp2_with fail
  refine (HMY.out w1 HB1.out).mono ?_
  rintro e w2 ⟨r, rfl, hr, hb2⟩
  have HB2 := hide' (HB1.out.trans (hb2.mono HB1.out.size))
  have HW2 := hide' ((hb2.block Wb (lt_heap HQWb.out)).trans HQWb.out)
  have HR := hide' hr
  clear hb2 hr HMY HQWb HB1 g0 g1 g2 g3 g4 g5 g6 g7 g8 g9 g10 g11
  cases r with
  | false =>
    go_wp2_with fail
    go_ret2
    exact ⟨.inl ⟨fun h => absurd (HR.out.2 h) (by decide), rfl⟩, HB2.out⟩
  | true =>
    have HY : Hid (MayW W) := HR.out.1 rfl
    have g3 : w2.cell? ⟨Wb, 3, none⟩ = some (.slice ag W.net.gens.length cg) := (cells_at HW2.out 3).trans rfl
    by_cases hlen : black.length = W.net.gens.length
    · have HLE := hide' hlen
      rw [hlen] at ⊢
      have HS := hide' (HST.out HY.out hlen)
      have HP := hide' (HSP.out HY.out)
      clear hlen HST HSP
      go_upto_region 5 with fail
      clear g3
      have SW : Hid (∀ z, Below w2.heap.size w2 z → z.cell? ⟨Wb, 0, none⟩ = some (.string W.net.name) ∧ z.cell? ⟨Wb, 1, none⟩ = some (.slice ab W.net.buses.length cb) ∧ z.cell? ⟨Wb, 2, none⟩ = some (.slice al W.net.lines.length cl) ∧ z.cell? ⟨Wb, 3, none⟩ = some (.slice ag W.net.gens.length cg) ∧ z.cell? ⟨Wb, 4, none⟩ = some (.slice ad W.net.loads.length cd) ∧ z.cell? ⟨Wb, 5, none⟩ = some (.slice at' W.net.ties.length ct) ∧ z.cell? ⟨Wb, 6, none⟩ = some (.slice ao W.out.length co) ∧ z.cell? ⟨Wb, 7, none⟩ = some (.slice an W.on.length cn) ∧ z.cell? ⟨Wb, 8, none⟩ = some (.slice ap W.plan.length cp) ∧ z.cell? ⟨Wb, 9, none⟩ = some (.slice av W.given.length cv) ∧ z.cell? ⟨Wb, 10, none⟩ = some (.int .i64 W.now) ∧ z.cell? ⟨Wb, 11, none⟩ = some (.slice ae W.log.length ce)) := fun z hz => ⟨up_cell hz ((cells_at HW2.out 0).trans rfl), up_cell hz ((cells_at HW2.out 1).trans rfl), up_cell hz ((cells_at HW2.out 2).trans rfl), up_cell hz ((cells_at HW2.out 3).trans rfl), up_cell hz ((cells_at HW2.out 4).trans rfl), up_cell hz ((cells_at HW2.out 5).trans rfl), up_cell hz ((cells_at HW2.out 6).trans rfl), up_cell hz ((cells_at HW2.out 7).trans rfl), up_cell hz ((cells_at HW2.out 8).trans rfl), up_cell hz ((cells_at HW2.out 9).trans rfl), up_cell hz ((cells_at HW2.out 10).trans rfl), up_cell hz ((cells_at HW2.out 11).trans rfl)⟩
      refine wp_region_tail (fun z => z.cell? ⟨Wb, 0, none⟩ = some (.string W.net.name) ∧ z.cell? ⟨Wb, 1, none⟩ = some (.slice ab W.net.buses.length cb) ∧ z.cell? ⟨Wb, 2, none⟩ = some (.slice al W.net.lines.length cl) ∧ z.cell? ⟨Wb, 3, none⟩ = some (.slice ag W.net.gens.length cg) ∧ z.cell? ⟨Wb, 4, none⟩ = some (.slice ad W.net.loads.length cd) ∧ z.cell? ⟨Wb, 5, none⟩ = some (.slice at' W.net.ties.length ct) ∧ z.cell? ⟨Wb, 6, none⟩ = some (.slice ao W.out.length co) ∧ z.cell? ⟨Wb, 7, none⟩ = some (.slice an W.on.length cn) ∧ z.cell? ⟨Wb, 8, none⟩ = some (.slice ap W.plan.length cp) ∧ z.cell? ⟨Wb, 9, none⟩ = some (.slice av W.given.length cv) ∧ z.cell? ⟨Wb, 10, none⟩ = some (.int .i64 W.now) ∧ z.cell? ⟨Wb, 11, none⟩ = some (.slice ae W.log.length ce)) 6 (by kernel_rfl) ?_
      refine wpAnyT_letter (fun z => Below w2.heap.size w2 z) (Below.refl _ w2).drew ?_
      rintro z hbz
      have HBZ := hide' hbz
      clear hbz
      refine wpAnyD_takeAt 0 (some 18) (v := ?_) rfl (by kernel_rfl) (by kernel_rfl) (by kernel_rfl) (by kernel_rfl) (by kernel_rfl) (fun _ _ _ h => h) (by exact SW.out z HBZ.out) (fun o hop => ?_) ?_
      rotate_left
      · injection hop with hop
        subst hop
        refine ⟨rfl, fun W' hW => ?_⟩
        obtain ⟨s0, s1, s2, s3, s4, s5, s6, s7, s8, s9, s10, s11⟩ := hW
        go_simp
        first
        | rfl
        | (constructor <;> rfl)
      try simp only [Act.put, List.setIfInBounds_toArray, List.set_cons_zero, List.set_cons_succ]
      refine wpAnyD_takeAt 1 (some 19) (v := ?_) rfl (by kernel_rfl) (by kernel_rfl) (by kernel_rfl) (by kernel_rfl) (by kernel_rfl) (fun _ _ _ h => h) (by exact SW.out z HBZ.out) (fun o hop => ?_) ?_
      rotate_left
      · injection hop with hop
        subst hop
        refine ⟨rfl, fun W' hW => ?_⟩
        obtain ⟨s0, s1, s2, s3, s4, s5, s6, s7, s8, s9, s10, s11⟩ := hW
        go_simp
        first
        | rfl
        | (constructor <;> rfl)
      try simp only [Act.put, List.setIfInBounds_toArray, List.set_cons_zero, List.set_cons_succ]
      refine wpAnyD_takeAt 2 (some 20) (v := ?_) rfl (by kernel_rfl) (by kernel_rfl) (by kernel_rfl) (by kernel_rfl) (by kernel_rfl) (fun _ _ _ h => h) (by exact SW.out z HBZ.out) (fun o hop => ?_) ?_
      rotate_left
      · injection hop with hop
        subst hop
        refine ⟨rfl, fun W' hW => ?_⟩
        obtain ⟨s0, s1, s2, s3, s4, s5, s6, s7, s8, s9, s10, s11⟩ := hW
        go_simp
        first
        | rfl
        | (constructor <;> rfl)
      try simp only [Act.put, List.setIfInBounds_toArray, List.set_cons_zero, List.set_cons_succ]

      refine wpAnyT_one (i := 3) (by kernel_rfl) rfl rfl (fun K' hK => ?_)
      go_simp
      go_at_call 11
      refine (HS.out z (HB2.out.trans (HBZ.out.mono HB2.out.size))).mono ?_
      rintro e z2 ⟨F, rfl, hrow, hbz2⟩
      have HBZ2 : Hid (Below w2.heap.size w2 z2) := HBZ.out.trans (hbz2.mono HBZ.out.size)
      have HRW := hide' hrow
      refine hK.out _ _ (fun _ => SW.out z2 HBZ2.out) ?_
      clear hK K' hrow hbz2 HS HBZ
      try simp only [Act.put, List.setIfInBounds_toArray, List.set_cons_zero, List.set_cons_succ]
      refine wpAnyT_one (i := 4) (by kernel_rfl) rfl rfl (fun K' hK => ?_)
      go_simp
      go_at_call 10
      refine (HP.out z2 F (HB2.out.trans (HBZ2.out.mono HB2.out.size)) HRW.out).mono ?_
      rintro e z3 ⟨v, rfl, hown, hbz3⟩
      have HBZ3 : Hid (Below w2.heap.size w2 z3) := HBZ2.out.trans (hbz3.mono HBZ2.out.size)
      have HOW : Hid (z3.ownsRow w.heap.size 3 1 v (wakeL W black).length (ints (natI (wakeL W black)))) := own_mono hown (Nat.le_trans HB2.out.size HBZ2.out.size)
      refine hK.out _ _ (fun _ => SW.out z3 HBZ3.out) ?_
      clear hK K' hown hbz3 HP HRW HBZ2
      try simp only [Act.put, List.setIfInBounds_toArray, List.set_cons_zero, List.set_cons_succ]
      refine wpAnyT_one (i := 5) (by kernel_rfl) rfl rfl (fun K' hK => ?_)
      go_simp
      refine hK.out _ _ (fun _ => SW.out z3 HBZ3.out) ?_
      clear hK K'
      try simp only [Act.put, List.setIfInBounds_toArray, List.set_cons_zero, List.set_cons_succ]
      refine wpAnyT_one (i := 6) (by kernel_rfl) rfl rfl (fun K' hK => ?_)
      go_simp
      refine hK.out _ _ (fun h => absurd rfl h) ?_
      clear hK K'
      try simp only [Act.put, List.setIfInBounds_toArray, List.set_cons_zero, List.set_cons_succ]
      refine wpAnyT_done (by kernel_rfl) ?_ _
      go_wp2_with fail
      go_ret2
      exact ⟨.inr (.inr ⟨HY.out, HLE.out, v, rfl, HOW.out⟩), HB2.out.trans (HBZ3.out.mono HB2.out.size)⟩
    · have hne : ((black.length : Int) != (W.net.gens.length : Int)) = true := by simp; omega
      go_wp2_with fail
      go_ret2
      exact ⟨.inr (.inl ⟨HY.out, hlen, rfl⟩), HB2.out⟩
end Go.Proofs.YtpbalclhdhjnoaaGreatDoor.Bar
namespace Go.Proofs.YtpbalclhdhjnoaaGreatDoor.Bar
open Go.RowKit Go.Shelf Doc

set_option maxRecDepth 100000 in
set_option maxHeartbeats 4000000 in
theorem WorldMay_any (W : WorldM) (a : WAddr) (w : World) (hsm : SmallM W.net) (hw : WorldAt w W a) :
    Calls Tryz.prog 12 #[.agg #[.string W.net.name, .slice a.ab W.net.buses.length a.cb, .slice a.al W.net.lines.length a.cl, .slice a.ag W.net.gens.length a.cg, .slice a.ad W.net.loads.length a.cd, .slice a.at' W.net.ties.length a.ct, .slice a.ao W.out.length a.co, .slice a.an W.on.length a.cn, .slice a.ap W.plan.length a.cp, .slice a.av W.given.length a.cv, .int .i64 W.now, .slice a.ae W.log.length a.ce]] w fun e w' => ∃ r : Bool, e = .returned (.bool r) ∧ (r = true ↔ MayW W) ∧ Below w.heap.size w w' := by
  have hl3 := hsm.lens.2.2.1
  have hl4 := hsm.lens.2.2.2.1
  have HNM := hide' (fun z (hb : Below w.heap.size w z) => NetMay_any W.net _ z (hw.down hb).net hsm)
  obtain ⟨ab, al, ag, ad, at', ao, an, ap, av, ae, cb, cl, cg, cd, ct, co, cn, cp, cv, ce⟩ := a
  have HGR : Hid (RowAt w (.slice ag W.net.gens.length cg) W.net.gens.length 5 (W.net.gens.flatMap GenM.cells)) := hw.g
  have HDR : Hid (RowAt w (.slice ad W.net.loads.length cd) W.net.loads.length 3 (W.net.loads.flatMap LoadM.cells)) := hw.d
  have HNR : Hid (RowAt w (.slice an W.on.length cn) W.on.length 1 (W.on.map Value.bool)) := hw.n
  have HPR : Hid (RowAt w (.slice ap W.plan.length cp) W.plan.length 1 (ints W.plan)) := hw.p
  have HVR : Hid (RowAt w (.slice av W.given.length cv) W.given.length 1 (ints W.given)) := hw.v
  dsimp only at HNM ⊢
  clear hsm hw
  go_enter Tryz.func12, Tryz.ntmps12
  go_upto_region 1 with fail
  have hqWb := alloc_new w (.cells #[.string W.net.name, .slice ab W.net.buses.length cb, .slice al W.net.lines.length cl, .slice ag W.net.gens.length cg, .slice ad W.net.loads.length cd, .slice at' W.net.ties.length ct, .slice ao W.out.length co, .slice an W.on.length cn, .slice ap W.plan.length cp, .slice av W.given.length cv, .int .i64 W.now, .slice ae W.log.length ce] 33)
  have hb1 := below_al w (.cells #[.string W.net.name, .slice ab W.net.buses.length cb, .slice al W.net.lines.length cl, .slice ag W.net.gens.length cg, .slice ad W.net.loads.length cd, .slice at' W.net.ties.length ct, .slice ao W.out.length co, .slice an W.on.length cn, .slice ap W.plan.length cp, .slice av W.given.length cv, .int .i64 W.now, .slice ae W.log.length ce] 33)
  obtain ⟨w1, hw1⟩ : ∃ x, x = (w.alloc (.cells #[.string W.net.name, .slice ab W.net.buses.length cb, .slice al W.net.lines.length cl, .slice ag W.net.gens.length cg, .slice ad W.net.loads.length cd, .slice at' W.net.ties.length ct, .slice ao W.out.length co, .slice an W.on.length cn, .slice ap W.plan.length cp, .slice av W.given.length cv, .int .i64 W.now, .slice ae W.log.length ce] 33)) := ⟨_, rfl⟩
  rw [← hw1] at hqWb hb1 ⊢
  obtain ⟨Wb, hnWb⟩ : ∃ x, x = w.heap.size := ⟨_, rfl⟩
  have HNE : Hid (w.heap.size ≤ Wb) := by show _ ≤ _; omega
  rw [← hnWb] at hqWb
  rw [show (Value.pointer (some { block := w.heap.size, off := 0 })) = Value.pointer (some { block := Wb, off := 0 }) by rw [hnWb]]
  have HQWb := hide' hqWb
  have HB1 := hide' hb1
  clear hqWb hb1 hw1 hnWb
  have g0 : w1.cell? ⟨Wb, 0, none⟩ = some (.string W.net.name) := (cells_at HQWb.out 0).trans rfl
  have g1 : w1.cell? ⟨Wb, 1, none⟩ = some (.slice ab W.net.buses.length cb) := (cells_at HQWb.out 1).trans rfl
  have g2 : w1.cell? ⟨Wb, 2, none⟩ = some (.slice al W.net.lines.length cl) := (cells_at HQWb.out 2).trans rfl
  have g3 : w1.cell? ⟨Wb, 3, none⟩ = some (.slice ag W.net.gens.length cg) := (cells_at HQWb.out 3).trans rfl
  have g4 : w1.cell? ⟨Wb, 4, none⟩ = some (.slice ad W.net.loads.length cd) := (cells_at HQWb.out 4).trans rfl
  have g5 : w1.cell? ⟨Wb, 5, none⟩ = some (.slice at' W.net.ties.length ct) := (cells_at HQWb.out 5).trans rfl
  go_upto_region 2 with fail
  obtain ⟨Nb, hNb⟩ : ∃ x, x = w1.heap.size := ⟨_, rfl⟩
  have hb2 := below_al w1 (.cells #[.string W.net.name, .slice ab W.net.buses.length cb, .slice al W.net.lines.length cl, .slice ag W.net.gens.length cg, .slice ad W.net.loads.length cd, .slice at' W.net.ties.length ct] 28)
  have hn2 := alloc_new w1 (.cells #[.string W.net.name, .slice ab W.net.buses.length cb, .slice al W.net.lines.length cl, .slice ag W.net.gens.length cg, .slice ad W.net.loads.length cd, .slice at' W.net.ties.length ct] 28)
  obtain ⟨w2, hw2⟩ : ∃ x, x = w1.alloc (.cells #[.string W.net.name, .slice ab W.net.buses.length cb, .slice al W.net.lines.length cl, .slice ag W.net.gens.length cg, .slice ad W.net.loads.length cd, .slice at' W.net.ties.length ct] 28) := ⟨_, rfl⟩
  rw [← hw2] at hb2 hn2 ⊢
  rw [← hNb] at hn2 ⊢
  have HB2 := hide' (HB1.out.trans (hb2.mono HB1.out.size))
  have HX2 : Hid (w2.heap[Wb]? = some (.cells #[.string W.net.name, .slice ab W.net.buses.length cb, .slice al W.net.lines.length cl, .slice ag W.net.gens.length cg, .slice ad W.net.loads.length cd, .slice at' W.net.ties.length ct, .slice ao W.out.length co, .slice an W.on.length cn, .slice ap W.plan.length cp, .slice av W.given.length cv, .int .i64 W.now, .slice ae W.log.length ce] 33 (0, 0)) ∧ w2.heap[Nb]? = some (.cells #[.string W.net.name, .slice ab W.net.buses.length cb, .slice al W.net.lines.length cl, .slice ag W.net.gens.length cg, .slice ad W.net.loads.length cd, .slice at' W.net.ties.length ct] 28 (0, 0))) := ⟨(hb2.block Wb (lt_heap HQWb.out)).trans HQWb.out, hn2⟩
  have n0 : w2.cell? ⟨Nb, 0, none⟩ = some (.string W.net.name) := (cells_at HX2.out.2 0).trans rfl
  have n1 : w2.cell? ⟨Nb, 1, none⟩ = some (.slice ab W.net.buses.length cb) := (cells_at HX2.out.2 1).trans rfl
  have n2 : w2.cell? ⟨Nb, 2, none⟩ = some (.slice al W.net.lines.length cl) := (cells_at HX2.out.2 2).trans rfl
  have n3 : w2.cell? ⟨Nb, 3, none⟩ = some (.slice ag W.net.gens.length cg) := (cells_at HX2.out.2 3).trans rfl
  have n4 : w2.cell? ⟨Nb, 4, none⟩ = some (.slice ad W.net.loads.length cd) := (cells_at HX2.out.2 4).trans rfl
  have n5 : w2.cell? ⟨Nb, 5, none⟩ = some (.slice at' W.net.ties.length ct) := (cells_at HX2.out.2 5).trans rfl
  clear hb2 hn2 hw2 hNb HQWb HB1 g0 g1 g2 g3 g4 g5
  go_wp2_with fail
  refine (HNM.out w2 HB2.out).mono ?_
  rintro e w3 ⟨⟨r, rfl, hr⟩, hb3⟩
  have HB3 := hide' (HB2.out.trans (hb3.mono HB2.out.size))
  have HX3 : Hid (w3.heap[Wb]? = some (.cells #[.string W.net.name, .slice ab W.net.buses.length cb, .slice al W.net.lines.length cl, .slice ag W.net.gens.length cg, .slice ad W.net.loads.length cd, .slice at' W.net.ties.length ct, .slice ao W.out.length co, .slice an W.on.length cn, .slice ap W.plan.length cp, .slice av W.given.length cv, .int .i64 W.now, .slice ae W.log.length ce] 33 (0, 0)) ∧ w3.heap[Nb]? = some (.cells #[.string W.net.name, .slice ab W.net.buses.length cb, .slice al W.net.lines.length cl, .slice ag W.net.gens.length cg, .slice ad W.net.loads.length cd, .slice at' W.net.ties.length ct] 28 (0, 0))) := ⟨(hb3.block Wb (lt_heap HX2.out.1)).trans HX2.out.1, (hb3.block Nb (lt_heap HX2.out.2)).trans HX2.out.2⟩
  have HR := hide' hr
  clear hb3 hr HNM HX2 HB2 n0 n1 n2 n3 n4 n5
  cases r with
  | false =>
    go_wp2_with fail
    go_ret
    exact ⟨_, rfl, ⟨fun h => (by cases h), fun h => absurd (HR.out.2 h.1) (by decide)⟩, HB3.out⟩
  | true =>
    have HY : Hid (MayM W.net) := HR.out.1 rfl
    clear HR
    have g6 : w3.cell? ⟨Wb, 6, none⟩ = some (.slice ao W.out.length co) := (cells_at HX3.out.1 6).trans rfl
    have g7 : w3.cell? ⟨Wb, 7, none⟩ = some (.slice an W.on.length cn) := (cells_at HX3.out.1 7).trans rfl
    have g8 : w3.cell? ⟨Wb, 8, none⟩ = some (.slice ap W.plan.length cp) := (cells_at HX3.out.1 8).trans rfl
    have g9 : w3.cell? ⟨Wb, 9, none⟩ = some (.slice av W.given.length cv) := (cells_at HX3.out.1 9).trans rfl
    have g10 : w3.cell? ⟨Wb, 10, none⟩ = some (.int .i64 W.now) := (cells_at HX3.out.1 10).trans rfl
    have g11 : w3.cell? ⟨Wb, 11, none⟩ = some (.slice ae W.log.length ce) := (cells_at HX3.out.1 11).trans rfl
    have n2 : w3.cell? ⟨Nb, 2, none⟩ = some (.slice al W.net.lines.length cl) := (cells_at HX3.out.2 2).trans rfl
    have n3 : w3.cell? ⟨Nb, 3, none⟩ = some (.slice ag W.net.gens.length cg) := (cells_at HX3.out.2 3).trans rfl
    have n4 : w3.cell? ⟨Nb, 4, none⟩ = some (.slice ad W.net.loads.length cd) := (cells_at HX3.out.2 4).trans rfl
    by_cases k1 : W.out.length = W.net.lines.length
    rotate_left
    · have hne : ((W.out.length : Int) != (W.net.lines.length : Int)) = true := by simp; omega
      go_wp2_with fail
      go_ret
      exact ⟨_, rfl, ⟨fun h => (by cases h), fun h => absurd h.2.1 k1⟩, HB3.out⟩
    by_cases k2 : W.on.length = W.net.gens.length
    rotate_left
    · have hne0 : ((W.out.length : Int) != (W.net.lines.length : Int)) = false := by simp; omega
      have hne : ((W.on.length : Int) != (W.net.gens.length : Int)) = true := by simp; omega
      have K1 := hide' k1
      rw [k1] at g6 ⊢
      clear k1
      go_wp2_with fail
      go_ret
      exact ⟨_, rfl, ⟨fun h => (by cases h), fun h => absurd h.2.2.1.1 k2⟩, HB3.out⟩
    by_cases k3 : W.plan.length = W.net.gens.length
    rotate_left
    · have hne : ((W.plan.length : Int) != (W.net.gens.length : Int)) = true := by simp; omega
      rw [k1] at g6 ⊢
      rw [k2] at g7 ⊢
      clear k1 k2
      go_wp2_with fail
      go_ret
      exact ⟨_, rfl, ⟨fun h => (by cases h), fun h => absurd h.2.2.1.2.1 k3⟩, HB3.out⟩
    by_cases k4 : W.given.length = W.net.loads.length
    rotate_left
    · have hne : ((W.given.length : Int) != (W.net.loads.length : Int)) = true := by simp; omega
      rw [k1] at g6 ⊢
      rw [k2] at g7 ⊢
      rw [k3] at g8 ⊢
      clear k1 k2 k3
      go_wp2_with fail
      go_ret
      exact ⟨_, rfl, ⟨fun h => (by cases h), fun h => absurd h.2.2.2.1.1 k4⟩, HB3.out⟩
    have KK : Hid (W.out.length = W.net.lines.length ∧ W.on.length = W.net.gens.length ∧ W.plan.length = W.net.gens.length ∧ W.given.length = W.net.loads.length) := ⟨k1, k2, k3, k4⟩
    rw [k1] at g6 HX3 ⊢
    rw [k2] at g7 HX3 HNR ⊢
    rw [k3] at g8 HX3 HPR ⊢
    rw [k4] at g9 HX3 HVR ⊢
    clear k1 k2 k3 k4
    by_cases k5 : W.log.length ≤ 100
    rotate_left
    · have hlg2 : (100 : Int) < ((W.log.length : Nat) : Int) := by omega
      go_wp2_with fail
      go_ret
      exact ⟨_, rfl, ⟨fun h => (by cases h), fun h => absurd h.2.2.2.2.2 k5⟩, HB3.out⟩
    have K5 := hide' k5
    have hlg2 : ((W.log.length : Nat) : Int) ≤ 100 := by omega
    clear k5
    by_cases hno : 0 ≤ W.now ∧ W.now ≤ 1000000000
    rotate_left
    · have HWI : Hid (Calls Tryz.prog 21 #[.int .i64 W.now, .int .i64 0, .int .i64 1000000000] w3 fun e w' => e = .returned (.bool false) ∧ w' = w3) := (inBounds_any W.now 0 1000000000 w3).mono (fun e w' h => ⟨h.1.trans (ret_bool (by rw [← Bool.not_eq_true]; simp; omega)), h.2⟩)
      have HNO := hide' hno
      clear hno
      go_wp2_with fail
      refine HWI.out.mono ?_
      rintro e zz ⟨rfl, hzz⟩
      rw [hzz]
      clear hzz zz HWI
      go_wp2_with fail
      go_ret
      exact ⟨_, rfl, ⟨fun h => (by cases h), fun h => absurd h.2.2.2.2.1 HNO.out⟩, HB3.out⟩
    have HWI : Hid (Calls Tryz.prog 21 #[.int .i64 W.now, .int .i64 0, .int .i64 1000000000] w3 fun e w' => e = .returned (.bool true) ∧ w' = w3) := (inBounds_any W.now 0 1000000000 w3).mono (fun e w' h => ⟨h.1.trans (ret_bool (by simp [hno])), h.2⟩)
    have HNO := hide' hno
    clear hno
    go_wp2_with fail
    refine HWI.out.mono ?_
    rintro e zz ⟨rfl, hzz⟩
    rw [hzz]
    clear hzz zz HWI g6 g7 g8 g9 g10 g11 n2 n3 n4
    go_wp2_with fail
    have CW : Hid (∀ W', Below w3.heap.size w3 W' → W'.cell? ⟨Wb, 7, none⟩ = some (.slice an W.net.gens.length cn) ∧ W'.cell? ⟨Wb, 8, none⟩ = some (.slice ap W.net.gens.length cp) ∧ W'.cell? ⟨Wb, 9, none⟩ = some (.slice av W.net.loads.length cv) ∧ W'.cell? ⟨Nb, 3, none⟩ = some (.slice ag W.net.gens.length cg) ∧ W'.cell? ⟨Nb, 4, none⟩ = some (.slice ad W.net.loads.length cd)) := fun W' hb => ⟨up_cell hb ((cells_at HX3.out.1 7).trans rfl), up_cell hb ((cells_at HX3.out.1 8).trans rfl), up_cell hb ((cells_at HX3.out.1 9).trans rfl), up_cell hb ((cells_at HX3.out.2 3).trans rfl), up_cell hb ((cells_at HX3.out.2 4).trans rfl)⟩
    clear HX3
    go_loopw [4] (fun iv wr => ∃ (k : Nat), iv = .int .i64 k ∧ k ≤ W.net.gens.length ∧ Hid (PlanOk W.net.gens W.on W.plan k) ∧ Hid (Below w3.heap.size w3 wr)) (fun iv _ => W.net.gens.length - (intOf iv).toNat)
    case atStart => exact ⟨0, rfl, Nat.zero_le _, fun j l hj => absurd hj (Nat.not_lt_zero _), Below.refl _ w3⟩
    case round =>
      obtain ⟨k, rfl, hk, HG, HB⟩ := hrel
      obtain ⟨g7, g8, g9, n3, n4⟩ := CW.out wr HB.out
      by_cases hkl : k < W.net.gens.length
      · obtain ⟨rb, ro, rc, exr, _, hrow⟩ := row_elem (f := GenM.cells) (fun _ => rfl) HGR.out k hkl (by decide)
        obtain ⟨l, hlk⟩ : ∃ l, l = W.net.gens[k] := ⟨_, rfl⟩
        have HLK : Hid (W.net.gens[k]? = some l) := by show _ = _; rw [hlk]; exact List.getElem?_eq_getElem hkl
        rw [← hlk] at hrow
        obtain ⟨nm, bu, le, mo, co'⟩ := l
        simp only [Value.slice.injEq] at exr
        obtain ⟨rfl, _, rfl⟩ := exr
        have HBW := hide' (HB3.out.trans (HB.out.mono HB3.out.size))
        have c2 : wr.cell? ⟨rb, ro + k * 5 + 2, none⟩ = some (.int .i64 le) := up_cell HBW.out (hrow 2 _ rfl)
        have c3 : wr.cell? ⟨rb, ro + k * 5 + 3, none⟩ = some (.int .i64 mo) := up_cell HBW.out (hrow 3 _ rfl)
        obtain ⟨vb, vo, vc, exv, hvc⟩ := int_cellW HPR.out k hkl
        simp only [Value.slice.injEq] at exv
        obtain ⟨rfl, _, rfl⟩ := exv
        have v1 := up_cell HBW.out hvc
        obtain ⟨ob, oo, oc, exo, hoc⟩ := bool_cellW HNR.out k hkl
        simp only [Value.slice.injEq] at exo
        obtain ⟨rfl, _, rfl⟩ := exo
        have v2 := up_cell HBW.out hoc
        have HBD : Hid (∀ m, Below w3.heap.size w3 (wr.drewN m)) := fun m => below_drewN HB.out m
        obtain ⟨x, hx⟩ : ∃ x, x = W.plan.getD k 0 := ⟨_, rfl⟩
        obtain ⟨y, hy⟩ : ∃ y, y = W.on.getD k false := ⟨_, rfl⟩
        have HYE : Hid ((x ≠ 0 → y = true ∧ le ≤ x ∧ x ≤ mo) → PlanOk W.net.gens W.on W.plan (k + 1)) := fun h => HG.out.next HLK.out (by rw [← hx, ← hy]; exact h)
        have HNOT : Hid (x ≠ 0 → ¬ (y = true ∧ le ≤ x ∧ x ≤ mo) → ¬ MayW W) := fun h0 h hg => h (by have := hg.2.2.1.2.2 k _ hkl HLK.out (by rw [← hx]; exact h0); rw [← hx, ← hy] at this; exact this)
        rw [← hx] at v1
        rw [← hy] at v2
        clear hrow hlk hvc hoc hx hy HG HBW HB g9 n4
        go_upto_region 7 with fail
        by_cases hx0 : x = 0
        · subst hx0
          have HG2 := hide' (HYE.out (fun h => absurd rfl h))
          clear HYE HNOT
          go_quiet (fail)
          go_wp2_with fail
          go_roundw
          case rel => exact ⟨k + 1, by go_num, by omega, HG2.out, HBD.out _⟩
          case measure => simp only [intOf]; omega
        · have hxn : (x != 0) = true := by simpa using hx0
          cases y with
          | false =>
            have HG2 := hide' (HNOT.out hx0 (fun h => absurd h.1 (by decide)))
            clear HYE HNOT
            go_quiet (fail)
            go_wp2_with fail
            go_ret
            exact ⟨_, rfl, ⟨fun h => (by cases h), fun h => absurd h HG2.out⟩, HB3.out.trans ((HBD.out _).mono HB3.out.size)⟩
          | true =>
            by_cases hr : le ≤ x ∧ x ≤ mo
            · have HWI : Hid (∀ m, Calls Tryz.prog 21 #[.int .i64 x, .int .i64 le, .int .i64 mo] (wr.drewN m) fun e w' => e = .returned (.bool true) ∧ w' = wr.drewN m) := fun m => (inBounds_any x le mo (wr.drewN m)).mono (fun e w' h => ⟨h.1.trans (ret_bool (by simp [hr])), h.2⟩)
              have HG2 := hide' (HYE.out (fun _ => ⟨rfl, hr⟩))
              clear HYE HNOT hr
              go_quiet (first | (go_at_call 21; exact Calls.quiet_of_same (HWI.out _)))
              go_wp2_with fail
              go_roundw
              case rel => exact ⟨k + 1, by go_num, by omega, HG2.out, HBD.out _⟩
              case measure => simp only [intOf]; omega
            · have HWI : Hid (∀ m, Calls Tryz.prog 21 #[.int .i64 x, .int .i64 le, .int .i64 mo] (wr.drewN m) fun e w' => e = .returned (.bool false) ∧ w' = wr.drewN m) := fun m => (inBounds_any x le mo (wr.drewN m)).mono (fun e w' h => ⟨h.1.trans (ret_bool (by rw [← Bool.not_eq_true]; simp; omega)), h.2⟩)
              have HG2 := hide' (HNOT.out hx0 (fun h => hr h.2))
              clear HYE HNOT hr
              go_quiet (first | (go_at_call 21; exact Calls.quiet_of_same (HWI.out _)))
              go_wp2_with fail
              go_ret
              exact ⟨_, rfl, ⟨fun h => (by cases h), fun h => absurd h HG2.out⟩, HB3.out.trans ((HBD.out _).mono HB3.out.size)⟩
      · have hke : k = W.net.gens.length := by omega
        subst hke
        have HGP := hide' HG.out
        have HBA := hide' HB.out
        clear HG HB
        go_wp2_with fail
        clear g7 g8 g9 n3 n4
        go_loopw [5] (fun iv wr => ∃ (k : Nat), iv = .int .i64 k ∧ k ≤ W.net.loads.length ∧ Hid (GivenOk W.net.loads W.given k) ∧ Hid (Below w3.heap.size w3 wr)) (fun iv _ => W.net.loads.length - (intOf iv).toNat)
        case atStart => exact ⟨0, rfl, Nat.zero_le _, fun j l hj => absurd hj (Nat.not_lt_zero _), HBA.out⟩
        case round =>
          clear HBA
          obtain ⟨k, rfl, hk, HG, HB⟩ := hrel
          obtain ⟨g7, g8, g9, n3, n4⟩ := CW.out wr HB.out
          by_cases hkl : k < W.net.loads.length
          · obtain ⟨rb, ro, rc, exr, _, hrow⟩ := row_elem (f := LoadM.cells) (fun _ => rfl) HDR.out k hkl (by decide)
            obtain ⟨l, hlk⟩ : ∃ l, l = W.net.loads[k] := ⟨_, rfl⟩
            have HLK : Hid (W.net.loads[k]? = some l) := by show _ = _; rw [hlk]; exact List.getElem?_eq_getElem hkl
            rw [← hlk] at hrow
            obtain ⟨nm, bu, po⟩ := l
            simp only [Value.slice.injEq] at exr
            obtain ⟨rfl, _, rfl⟩ := exr
            have HBW := hide' (HB3.out.trans (HB.out.mono HB3.out.size))
            have c2 : wr.cell? ⟨rb, ro + k * 3 + 2, none⟩ = some (.int .i64 po) := up_cell HBW.out (hrow 2 _ rfl)
            obtain ⟨vb, vo, vc, exv, hvc⟩ := int_cellW HVR.out k hkl
            simp only [Value.slice.injEq] at exv
            obtain ⟨rfl, _, rfl⟩ := exv
            have v1 := up_cell HBW.out hvc
            have HBD : Hid (∀ m, Below w3.heap.size w3 (wr.drewN m)) := fun m => below_drewN HB.out m
            obtain ⟨x, hx⟩ : ∃ x, x = W.given.getD k 0 := ⟨_, rfl⟩
            have HYE : Hid (0 ≤ x ∧ x ≤ po → GivenOk W.net.loads W.given (k + 1)) := fun h => HG.out.next HLK.out (by rw [← hx]; exact h)
            have HNOT : Hid (¬ (0 ≤ x ∧ x ≤ po) → ¬ MayW W) := fun h hg => h (by have := hg.2.2.2.1.2 k _ hkl HLK.out; rw [← hx] at this; exact this)
            rw [← hx] at v1
            clear hrow hlk hvc hx HG HBW HB g7 g8 n3
            go_upto_region 12 with fail
            by_cases hr : 0 ≤ x ∧ x ≤ po
            · have HWI : Hid (∀ m, Calls Tryz.prog 21 #[.int .i64 x, .int .i64 0, .int .i64 po] (wr.drewN m) fun e w' => e = .returned (.bool true) ∧ w' = wr.drewN m) := fun m => (inBounds_any x 0 po (wr.drewN m)).mono (fun e w' h => ⟨h.1.trans (ret_bool (by simp [hr])), h.2⟩)
              have HG2 := hide' (HYE.out hr)
              clear HYE HNOT hr
              go_quiet (first | (go_at_call 21; exact Calls.quiet_of_same (HWI.out _)))
              go_wp2_with fail
              go_roundw
              case rel => exact ⟨k + 1, by go_num, by omega, HG2.out, HBD.out _⟩
              case measure => simp only [intOf]; omega
            · have HWI : Hid (∀ m, Calls Tryz.prog 21 #[.int .i64 x, .int .i64 0, .int .i64 po] (wr.drewN m) fun e w' => e = .returned (.bool false) ∧ w' = wr.drewN m) := fun m => (inBounds_any x 0 po (wr.drewN m)).mono (fun e w' h => ⟨h.1.trans (ret_bool (by rw [← Bool.not_eq_true]; simp; omega)), h.2⟩)
              have HG2 := hide' (HNOT.out hr)
              clear HYE HNOT hr
              go_quiet (first | (go_at_call 21; exact Calls.quiet_of_same (HWI.out _)))
              go_wp2_with fail
              go_ret
              exact ⟨_, rfl, ⟨fun h => (by cases h), fun h => absurd h HG2.out⟩, HB3.out.trans ((HBD.out _).mono HB3.out.size)⟩
          · have hke : k = W.net.loads.length := by omega
            subst hke
            go_wp2_with fail
            go_ret
            exact ⟨_, rfl, ⟨fun _ => ⟨HY.out, KK.out.1, ⟨KK.out.2.1, KK.out.2.2.1, HGP.out⟩, ⟨KK.out.2.2.2, HG.out⟩, HNO.out, K5.out⟩, fun _ => rfl⟩, HB3.out.trans (HB.out.mono HB3.out.size)⟩
end Go.Proofs.YtpbalclhdhjnoaaGreatDoor.Bar
namespace Go.Proofs.YtpbalclhdhjnoaaGreatDoor.Bar
open Go.RowKit Go.Shelf Doc

theorem targ_int {n : Nat} {links : List LinkM} (he : Ends n links) {s : Nat} (hs : s < n) {k : Nat} (hk : k < n) : ((targN n links s k : Nat) : Int) = target n links s k := by
  obtain ⟨_, f2, _⟩ := far_spec he hs
  have h1 := f2 k hk
  unfold targN target
  split <;> omega
theorem away_cell {w : World} {F : Nat} {N : NetM} {out : List Bool} {s : Nat} (he : EndsM N) (hs : s < N.buses.length) (h : w.heap[F]? = some (.cells (ints (awayL N out s)).toArray 3 (0, 0))) {k : Nat} (hk : k < N.buses.length) : w.cell? ⟨F, k, none⟩ = some (.int .i64 ((targN N.buses.length (serviceL N out) s k : Nat) : Int)) := by
  have hl : k < (awayL N out s).length := by unfold awayL; rw [awayS_len]; exact hk
  rw [(intsCell h hl).1, targ_int (service_ends he out) hs hk, ← awayI_spec (service_ends he out) hs k hk, ← away_service]
  rfl
set_option maxRecDepth 100000 in
set_option maxHeartbeats 4000000 in
theorem WakeOf_any (W : WorldM) (a : WAddr) (black : List Bool) (bv : Value) (w : World) (hsm : SmallM W.net) (hw : WorldAt w W a) (hb : RowAt w bv black.length 1 (black.map Value.bool)) (_hbl : black.length ≤ 2000000) :
    Calls Tryz.prog 7 #[.agg #[.string W.net.name, .slice a.ab W.net.buses.length a.cb, .slice a.al W.net.lines.length a.cl, .slice a.ag W.net.gens.length a.cg, .slice a.ad W.net.loads.length a.cd, .slice a.at' W.net.ties.length a.ct, .slice a.ao W.out.length a.co, .slice a.an W.on.length a.cn, .slice a.ap W.plan.length a.cp, .slice a.av W.given.length a.cv, .int .i64 W.now, .slice a.ae W.log.length a.ce], bv] w (WakeO W black w) := by
  obtain ⟨i3, hi3, h30, h31, h32⟩ := info_parts info3W
  obtain ⟨la, lc, rfl⟩ := rowAt_slice hb
  have HMY := hide' (fun z (hz : Below w.heap.size w z) => WorldMay_any W a z hsm (hw.down hz))
  have HAW : Hid (MayW W → ∀ z (p : Nat), Below w.heap.size w z → p < W.net.buses.length → Calls Tryz.prog 13 #[.agg #[.string W.net.name, .slice a.ab W.net.buses.length a.cb, .slice a.al W.net.lines.length a.cl, .slice a.ag W.net.gens.length a.cg, .slice a.ad W.net.loads.length a.cd, .slice a.at' W.net.ties.length a.ct], .slice a.ao W.net.lines.length a.co, .int .i64 (p : Int)] z fun e w' => ∃ F, e = .returned (.slice (some ⟨F, 0, none⟩) W.net.buses.length W.net.buses.length) ∧ z.heap.size ≤ F ∧ (∀ k, k < W.net.buses.length → w'.cell? ⟨F, k, none⟩ = some (.int .i64 ((targN W.net.buses.length (serviceL W.net W.out) p k : Nat) : Int))) ∧ Below z.heap.size z w') := fun hy z p hz hp => by
    have ho := (hw.down hz).o
    rw [hy.2.1] at ho
    refine (awayFrom_any W.net _ _ W.out p hp z (hw.down hz).net hy.1.fits (MayM.ends hy.1) hy.2.1 ho).mono ?_
    rintro e w' ⟨F, rfl, hFs, hF, hbw⟩
    exact ⟨F, rfl, hFs, fun k hk => away_cell (MayM.ends hy.1) hp hF hk, hbw⟩
  obtain ⟨ab, al, ag, ad, at', ao, an, ap, av, ae, cb, cl, cg, cd, ct, co, cn, cp, cv, ce⟩ := a
  have HGR : Hid (RowAt w (.slice ag W.net.gens.length cg) W.net.gens.length 5 (W.net.gens.flatMap GenM.cells)) := hw.g
  have HNR : Hid (RowAt w (.slice an W.on.length cn) W.on.length 1 (W.on.map Value.bool)) := hw.n
  have HBR := hide' hb
  dsimp only at HMY HAW ⊢
  clear hsm hw hb
  go_enter Tryz.func7, Tryz.ntmps7
  go_upto_region 1 with fail
  have hqWb := alloc_new w (.cells #[.string W.net.name, .slice ab W.net.buses.length cb, .slice al W.net.lines.length cl, .slice ag W.net.gens.length cg, .slice ad W.net.loads.length cd, .slice at' W.net.ties.length ct, .slice ao W.out.length co, .slice an W.on.length cn, .slice ap W.plan.length cp, .slice av W.given.length cv, .int .i64 W.now, .slice ae W.log.length ce] 33)
  have hb1 := below_al w (.cells #[.string W.net.name, .slice ab W.net.buses.length cb, .slice al W.net.lines.length cl, .slice ag W.net.gens.length cg, .slice ad W.net.loads.length cd, .slice at' W.net.ties.length ct, .slice ao W.out.length co, .slice an W.on.length cn, .slice ap W.plan.length cp, .slice av W.given.length cv, .int .i64 W.now, .slice ae W.log.length ce] 33)
  obtain ⟨w1, hw1⟩ : ∃ x, x = (w.alloc (.cells #[.string W.net.name, .slice ab W.net.buses.length cb, .slice al W.net.lines.length cl, .slice ag W.net.gens.length cg, .slice ad W.net.loads.length cd, .slice at' W.net.ties.length ct, .slice ao W.out.length co, .slice an W.on.length cn, .slice ap W.plan.length cp, .slice av W.given.length cv, .int .i64 W.now, .slice ae W.log.length ce] 33)) := ⟨_, rfl⟩
  rw [← hw1] at hqWb hb1 ⊢
  obtain ⟨Wb, hnWb⟩ : ∃ x, x = w.heap.size := ⟨_, rfl⟩
  have HNE : Hid (w.heap.size ≤ Wb) := by show _ ≤ _; omega
  rw [← hnWb] at hqWb
  rw [show (Value.pointer (some { block := w.heap.size, off := 0 })) = Value.pointer (some { block := Wb, off := 0 }) by rw [hnWb]]
  have HQWb := hide' hqWb
  have HB1 := hide' hb1
  clear hqWb hb1 hw1 hnWb
  have g0 : w1.cell? ⟨Wb, 0, none⟩ = some (.string W.net.name) := (cells_at HQWb.out 0).trans rfl
  have g1 : w1.cell? ⟨Wb, 1, none⟩ = some (.slice ab W.net.buses.length cb) := (cells_at HQWb.out 1).trans rfl
  have g2 : w1.cell? ⟨Wb, 2, none⟩ = some (.slice al W.net.lines.length cl) := (cells_at HQWb.out 2).trans rfl
  have g3 : w1.cell? ⟨Wb, 3, none⟩ = some (.slice ag W.net.gens.length cg) := (cells_at HQWb.out 3).trans rfl
  have g4 : w1.cell? ⟨Wb, 4, none⟩ = some (.slice ad W.net.loads.length cd) := (cells_at HQWb.out 4).trans rfl
  have g5 : w1.cell? ⟨Wb, 5, none⟩ = some (.slice at' W.net.ties.length ct) := (cells_at HQWb.out 5).trans rfl
  have g6 : w1.cell? ⟨Wb, 6, none⟩ = some (.slice ao W.out.length co) := (cells_at HQWb.out 6).trans rfl
  have g7 : w1.cell? ⟨Wb, 7, none⟩ = some (.slice an W.on.length cn) := (cells_at HQWb.out 7).trans rfl
  have g8 : w1.cell? ⟨Wb, 8, none⟩ = some (.slice ap W.plan.length cp) := (cells_at HQWb.out 8).trans rfl
  have g9 : w1.cell? ⟨Wb, 9, none⟩ = some (.slice av W.given.length cv) := (cells_at HQWb.out 9).trans rfl
  have g10 : w1.cell? ⟨Wb, 10, none⟩ = some (.int .i64 W.now) := (cells_at HQWb.out 10).trans rfl
  have g11 : w1.cell? ⟨Wb, 11, none⟩ = some (.slice ae W.log.length ce) := (cells_at HQWb.out 11).trans rfl
  go_wp2_with fail
  refine (HMY.out w1 HB1.out).mono ?_
  rintro e w2 ⟨r, rfl, hr, hb2⟩
  have HB2 := hide' (HB1.out.trans (hb2.mono HB1.out.size))
  have HW2 := hide' ((hb2.block Wb (lt_heap HQWb.out)).trans HQWb.out)
  have HR := hide' hr
  clear hb2 hr HMY HQWb HB1 g0 g1 g2 g3 g4 g5 g6 g7 g8 g9 g10 g11
  cases r with
  | false =>
    go_wp2_with fail
    go_ret2
    exact ⟨.inl ⟨fun h => absurd (HR.out.2 h) (by decide), rfl⟩, HB2.out⟩
  | true =>
    have HY : Hid (MayW W) := HR.out.1 rfl
    have g3 : w2.cell? ⟨Wb, 3, none⟩ = some (.slice ag W.net.gens.length cg) := (cells_at HW2.out 3).trans rfl
    by_cases hlen : black.length = W.net.gens.length
    rotate_left
    · have hne : ((black.length : Int) != (W.net.gens.length : Int)) = true := by simp; omega
      go_wp2_with fail
      go_ret2
      exact ⟨.inr (.inl ⟨HY.out, hlen, rfl⟩), HB2.out⟩
    have HLE := hide' hlen
    rw [hlen] at HBR ⊢
    clear hlen
    have hn16 : W.net.buses.length ≤ 16 := HY.out.1.fits.1
    have hG12 : W.net.gens.length ≤ 12 := HY.out.1.fits.2.2.1
    have HON : Hid (W.on.length = W.net.gens.length) := HY.out.2.2.1.1
    have HOL : Hid (W.out.length = W.net.lines.length) := HY.out.2.1
    have HGB : Hid (∀ g ∈ W.net.gens, 0 ≤ g.bus ∧ g.bus < W.net.buses.length) := fun g hg => ⟨(HY.out.1.gens g hg).1, (HY.out.1.gens g hg).2.1⟩
    have HA := hide' (HAW.out HY.out)
    rw [HON.out] at HNR
    rw [HOL.out, HON.out] at HW2 ⊢
    obtain ⟨n, hn⟩ : ∃ x, x = W.net.buses.length := ⟨_, rfl⟩
    have HNN := hide' hn
    rw [← hn] at hn16 HGB HA HW2 ⊢
    clear hn HAW HR
    have g1 : w2.cell? ⟨Wb, 1, none⟩ = some (.slice ab n cb) := (cells_at HW2.out 1).trans rfl
    go_upto_region 6 with fail
    go_wp2_with (at_make; refine wpList_make_full _ rfl _ _ 30 rfl w2.heap.size 3 i3 (.int .i64 0) 1 Tryz.underlying30 hi3 h30 h31 .i64 .i64 _ _ n rfl rfl rfl rfl (by rw [h32]; omega) (by unfold maxLen; omega) (Nat.le_refl _) ?_; intro w3 hown hgr; refine Still.go ?_)
    unfold Still
    have hb3 : Below w2.heap.size w2 w3 := (Below.refl _ w2).grown hgr (Nat.le_refl _) (fun k e => by cases e)
    obtain ⟨F, hF⟩ : ∃ x, x = w2.heap.size := ⟨_, rfl⟩
    have HFB : Hid (w2.heap.size ≤ F) := Nat.le_of_eq hF.symm
    have HI3 : Hid (IntsF w3 F n (fun x => if x < 0 then (n : Int) else 0) ∧ Below w2.heap.size w2 w3) := by
      refine ⟨?_, hb3⟩
      rw [hF]
      exact (IntsF.of_own hown).congr (fun x _ => (if_neg (Nat.not_lt_zero x)).symm)
    rw [← hF]
    clear hown hgr hb3 hF g1 g3
    go_wp2_with fail
    go_loopw [8] (fun cv wr => ∃ (c : Nat), cv = .int .i64 c ∧ c ≤ n ∧ Hid (IntsF wr F n (fun x => if x < c then (n : Int) else 0) ∧ Below w2.heap.size w2 wr)) (fun cv _ => n - (intOf cv).toNat)
    case atStart => exact ⟨0, rfl, Nat.zero_le _, HI3.out⟩
    case round =>
      clear HI3
      obtain ⟨c, rfl, hc, HI⟩ := hrel
      by_cases hcl : c < n
      · obtain ⟨c1, f1⟩ := HI.out.1.cell hcl
        have HN : Hid (IntsF (wr.setCell ⟨F, c, none⟩ (.int .i64 (n : Int))) F n (fun x => if x < c + 1 then (n : Int) else 0) ∧ Below w2.heap.size w2 (wr.setCell ⟨F, c, none⟩ (.int .i64 (n : Int)))) := by
          refine ⟨(HI.out.1.set hcl (n : Int)).congr (fun x _ => ?_), HI.out.2.setCell (p := ⟨F, c, none⟩) HFB.out _⟩
          by_cases e : x = c
          · rw [if_pos e, if_pos (by omega)]
          · rw [if_neg e]
            by_cases e2 : x < c
            · rw [if_pos e2, if_pos (by omega)]
            · rw [if_neg e2, if_neg (by omega)]
        clear HI
        go_wp2_with fail
        go_roundw
        case rel => exact ⟨c + 1, by go_num, by omega, HN.out⟩
        case measure => simp only [intOf]; omega
      · have hce : c = n := by omega
        have HI4 : Hid (IntsF wr F n (fun x => ((minD n (targN n (serviceL W.net W.out)) (srcL W.net.gens W.on black 0) x : Nat) : Int)) ∧ Below w2.heap.size w2 wr) := ⟨HI.out.1.congr (fun x hx => if_pos (by omega)), HI.out.2⟩
        clear HI hce
        go_wp2_with fail
        go_loopw [9] (fun iv wr => ∃ (i : Nat), iv = .int .i64 i ∧ i ≤ W.net.gens.length ∧ Hid (IntsF wr F n (fun x => ((minD n (targN n (serviceL W.net W.out)) (srcL W.net.gens W.on black i) x : Nat) : Int)) ∧ Below w2.heap.size w2 wr)) (fun iv _ => W.net.gens.length - (intOf iv).toNat)
        case atStart => exact ⟨0, rfl, Nat.zero_le _, HI4.out⟩
        case round =>
          clear HI4
          obtain ⟨i, rfl, hi, HI⟩ := hrel
          by_cases hil : i < W.net.gens.length
          · obtain ⟨bb, bo, bc, exb, hbc⟩ := bool_cellW HBR.out i hil
            simp only [Value.slice.injEq] at exb
            obtain ⟨rfl, _, rfl⟩ := exb
            obtain ⟨ob, oo, oc, exo, hoc⟩ := bool_cellW HNR.out i hil
            simp only [Value.slice.injEq] at exo
            obtain ⟨rfl, _, rfl⟩ := exo
            have HBW := hide' (HB2.out.trans (HI.out.2.mono HB2.out.size))
            have v1 := up_cell HBW.out hbc
            have v2 := up_cell HBW.out hoc
            have g7 : wr.cell? ⟨Wb, 7, none⟩ = some (.slice (some ⟨ob, oo, none⟩) W.net.gens.length cn) := up_cell HI.out.2 ((cells_at HW2.out 7).trans rfl)
            obtain ⟨rb, ro, rc, exr, _, hrow⟩ := row_elem (f := GenM.cells) (fun _ => rfl) HGR.out i hil (by decide)
            obtain ⟨l, hlk⟩ : ∃ l, l = W.net.gens[i] := ⟨_, rfl⟩
            have HLK : Hid (W.net.gens[i]? = some l) := by show _ = _; rw [hlk]; exact List.getElem?_eq_getElem hil
            obtain ⟨h1, h2⟩ := HGB.out l (by rw [hlk]; exact List.getElem_mem hil)
            rw [← hlk] at hrow
            obtain ⟨nm, bu, le, mo, co'⟩ := l
            obtain ⟨p, rfl⟩ := Int.eq_ofNat_of_zero_le h1
            have hp : p < n := by simp only at h2; omega
            simp only [Value.slice.injEq] at exr
            obtain ⟨rfl, _, rfl⟩ := exr
            have hc1 : wr.cell? ⟨rb, ro + i * 5 + 1, none⟩ = some (.int .i64 (p : Int)) := up_cell HBW.out (hrow 1 _ rfl)
            have HSN : Hid ((W.on.getD i false && black.getD i false) = false → srcL W.net.gens W.on black (i + 1) = srcL W.net.gens W.on black i) := fun h => srcL_no HLK.out h
            have HSY : Hid ((W.on.getD i false && black.getD i false) = true → srcL W.net.gens W.on black (i + 1) = srcL W.net.gens W.on black i ++ [p]) := fun h => srcL_yes HLK.out h
            obtain ⟨x, hx⟩ : ∃ x, x = W.on.getD i false := ⟨_, rfl⟩
            obtain ⟨y, hy⟩ : ∃ y, y = black.getD i false := ⟨_, rfl⟩
            rw [← hx] at v2 HSN HSY
            rw [← hy] at v1 HSN HSY
            clear hbc hoc hrow hlk h1 h2 hx hy
            cases y with
            | false =>
              have hnx := HI.out
              rw [← HSN.out (Bool.and_false x)] at hnx
              have HNX := hide' hnx
              clear hnx HI
              go_wp2_with fail
              go_roundw
              case rel => exact ⟨i + 1, by go_num, by omega, HNX.out⟩
              case measure => simp only [intOf]; omega
            | true =>
              cases x with
              | false =>
                have hnx := HI.out
                rw [← HSN.out rfl] at hnx
                have HNX := hide' hnx
                clear hnx HI
                go_wp2_with fail
                go_roundw
                case rel => exact ⟨i + 1, by go_num, by omega, HNX.out⟩
                case measure => simp only [intOf]; omega
              | true =>
                have HSS := hide' (HSY.out rfl)
                clear HSN HSY
                have SW : Hid (∀ z, Below wr.heap.size wr z → z.cell? ⟨Wb, 0, none⟩ = some (.string W.net.name) ∧ z.cell? ⟨Wb, 1, none⟩ = some (.slice ab n cb) ∧ z.cell? ⟨Wb, 2, none⟩ = some (.slice al W.net.lines.length cl) ∧ z.cell? ⟨Wb, 3, none⟩ = some (.slice (some ⟨rb, ro, none⟩) W.net.gens.length cg) ∧ z.cell? ⟨Wb, 4, none⟩ = some (.slice ad W.net.loads.length cd) ∧ z.cell? ⟨Wb, 5, none⟩ = some (.slice at' W.net.ties.length ct) ∧ z.cell? ⟨Wb, 6, none⟩ = some (.slice ao W.net.lines.length co) ∧ z.cell? ⟨rb, ro + i * 5 + 1, none⟩ = some (.int .i64 (p : Int))) := fun z hz => ⟨up_cell hz (up_cell HI.out.2 ((cells_at HW2.out 0).trans rfl)), up_cell hz (up_cell HI.out.2 ((cells_at HW2.out 1).trans rfl)), up_cell hz (up_cell HI.out.2 ((cells_at HW2.out 2).trans rfl)), up_cell hz (up_cell HI.out.2 ((cells_at HW2.out 3).trans rfl)), up_cell hz (up_cell HI.out.2 ((cells_at HW2.out 4).trans rfl)), up_cell hz (up_cell HI.out.2 ((cells_at HW2.out 5).trans rfl)), up_cell hz (up_cell HI.out.2 ((cells_at HW2.out 6).trans rfl)), up_cell hz hc1⟩
                clear hc1
                go_upto_region 15 with fail
                clear v1 v2 g7
                refine wp_region_tail (fun z => z.cell? ⟨Wb, 0, none⟩ = some (.string W.net.name) ∧ z.cell? ⟨Wb, 1, none⟩ = some (.slice ab n cb) ∧ z.cell? ⟨Wb, 2, none⟩ = some (.slice al W.net.lines.length cl) ∧ z.cell? ⟨Wb, 3, none⟩ = some (.slice (some ⟨rb, ro, none⟩) W.net.gens.length cg) ∧ z.cell? ⟨Wb, 4, none⟩ = some (.slice ad W.net.loads.length cd) ∧ z.cell? ⟨Wb, 5, none⟩ = some (.slice at' W.net.ties.length ct) ∧ z.cell? ⟨Wb, 6, none⟩ = some (.slice ao W.net.lines.length co) ∧ z.cell? ⟨rb, ro + i * 5 + 1, none⟩ = some (.int .i64 (p : Int))) 12 (by kernel_rfl) ?_
                refine wpAnyT_letter (fun z => Below wr.heap.size wr z) (Below.refl _ wr).drew ?_
                rintro z hbz
                have HBZ := hide' hbz
                clear hbz
                refine wpAnyD_takeAt 0 (some 59) (v := ?_) rfl (by kernel_rfl) (by kernel_rfl) (by kernel_rfl) (by kernel_rfl) (by kernel_rfl) (fun _ _ _ h => h) (by exact SW.out z HBZ.out) (fun o hop => ?_) ?_
                rotate_left
                · injection hop with hop
                  subst hop
                  refine ⟨rfl, fun W' hW => ?_⟩
                  obtain ⟨s0, s1, s2, s3, s4, s5, s6, s7⟩ := hW
                  go_simp
                  first
                  | rfl
                  | (constructor <;> rfl)
                try simp only [Act.put, List.setIfInBounds_toArray, List.set_cons_zero, List.set_cons_succ]
                refine wpAnyD_takeAt 1 (some 60) (v := ?_) rfl (by kernel_rfl) (by kernel_rfl) (by kernel_rfl) (by kernel_rfl) (by kernel_rfl) (fun _ _ _ h => h) (by exact SW.out z HBZ.out) (fun o hop => ?_) ?_
                rotate_left
                · injection hop with hop
                  subst hop
                  refine ⟨rfl, fun W' hW => ?_⟩
                  obtain ⟨s0, s1, s2, s3, s4, s5, s6, s7⟩ := hW
                  go_simp
                  first
                  | rfl
                  | (constructor <;> rfl)
                try simp only [Act.put, List.setIfInBounds_toArray, List.set_cons_zero, List.set_cons_succ]
                refine wpAnyD_takeAt 2 (some 61) (v := ?_) rfl (by kernel_rfl) (by kernel_rfl) (by kernel_rfl) (by kernel_rfl) (by kernel_rfl) (fun _ _ _ h => h) (by exact SW.out z HBZ.out) (fun o hop => ?_) ?_
                rotate_left
                · injection hop with hop
                  subst hop
                  refine ⟨rfl, fun W' hW => ?_⟩
                  obtain ⟨s0, s1, s2, s3, s4, s5, s6, s7⟩ := hW
                  go_simp
                  first
                  | rfl
                  | (constructor <;> rfl)
                try simp only [Act.put, List.setIfInBounds_toArray, List.set_cons_zero, List.set_cons_succ]
                refine wpAnyD_takeAt 3 (some 62) (v := ?_) rfl (by kernel_rfl) (by kernel_rfl) (by kernel_rfl) (by kernel_rfl) (by kernel_rfl) (fun _ _ _ h => h) (by exact SW.out z HBZ.out) (fun o hop => ?_) ?_
                rotate_left
                · injection hop with hop
                  subst hop
                  refine ⟨rfl, fun W' hW => ?_⟩
                  obtain ⟨s0, s1, s2, s3, s4, s5, s6, s7⟩ := hW
                  go_simp
                  first
                  | rfl
                  | (constructor <;> rfl)
                try simp only [Act.put, List.setIfInBounds_toArray, List.set_cons_zero, List.set_cons_succ]
                refine wpAnyD_takeAt 4 (some 63) (v := ?_) rfl (by kernel_rfl) (by kernel_rfl) (by kernel_rfl) (by kernel_rfl) (by kernel_rfl) (fun _ _ _ h => h) (by exact SW.out z HBZ.out) (fun o hop => ?_) ?_
                rotate_left
                · injection hop with hop
                  subst hop
                  refine ⟨rfl, fun W' hW => ?_⟩
                  obtain ⟨s0, s1, s2, s3, s4, s5, s6, s7⟩ := hW
                  go_simp
                  first
                  | rfl
                  | (constructor <;> rfl)
                try simp only [Act.put, List.setIfInBounds_toArray, List.set_cons_zero, List.set_cons_succ]
                refine wpAnyD_takeAt 5 (some 64) (v := ?_) rfl (by kernel_rfl) (by kernel_rfl) (by kernel_rfl) (by kernel_rfl) (by kernel_rfl) (fun _ _ _ h => h) (by exact SW.out z HBZ.out) (fun o hop => ?_) ?_
                rotate_left
                · injection hop with hop
                  subst hop
                  refine ⟨rfl, fun W' hW => ?_⟩
                  obtain ⟨s0, s1, s2, s3, s4, s5, s6, s7⟩ := hW
                  go_simp
                  first
                  | rfl
                  | (constructor <;> rfl)
                try simp only [Act.put, List.setIfInBounds_toArray, List.set_cons_zero, List.set_cons_succ]
                refine wpAnyD_takeAt 6 (some 65) (v := ?_) rfl (by kernel_rfl) (by kernel_rfl) (by kernel_rfl) (by kernel_rfl) (by kernel_rfl) (fun _ _ _ h => h) (by exact SW.out z HBZ.out) (fun o hop => ?_) ?_
                rotate_left
                · injection hop with hop
                  subst hop
                  refine ⟨rfl, fun W' hW => ?_⟩
                  obtain ⟨s0, s1, s2, s3, s4, s5, s6, s7⟩ := hW
                  go_simp
                  first
                  | rfl
                  | (constructor <;> rfl)
                try simp only [Act.put, List.setIfInBounds_toArray, List.set_cons_zero, List.set_cons_succ]
                refine wpAnyD_takeAt 7 (some 66) (v := ?_) rfl (by kernel_rfl) (by kernel_rfl) (by kernel_rfl) (by kernel_rfl) (by kernel_rfl) (fun _ _ _ h => h) (by exact SW.out z HBZ.out) (fun o hop => ?_) ?_
                rotate_left
                · injection hop with hop
                  subst hop
                  refine ⟨rfl, fun W' hW => ?_⟩
                  obtain ⟨s0, s1, s2, s3, s4, s5, s6, s7⟩ := hW
                  go_simp
                  first
                  | rfl
                  | (constructor <;> rfl)
                try simp only [Act.put, List.setIfInBounds_toArray, List.set_cons_zero, List.set_cons_succ]
                refine wpAnyD_takeAt 8 (some 67) (v := ?_) rfl (by kernel_rfl) (by kernel_rfl) (by kernel_rfl) (by kernel_rfl) (by kernel_rfl) (fun _ _ _ h => h) (by exact SW.out z HBZ.out) (fun o hop => ?_) ?_
                rotate_left
                · injection hop with hop
                  subst hop
                  refine ⟨rfl, fun W' hW => ?_⟩
                  obtain ⟨s0, s1, s2, s3, s4, s5, s6, s7⟩ := hW
                  go_simp
                  first
                  | rfl
                  | (constructor <;> rfl)
                try simp only [Act.put, List.setIfInBounds_toArray, List.set_cons_zero, List.set_cons_succ]
                refine wpAnyD_takeAt 9 (some 68) (v := ?_) rfl (by kernel_rfl) (by kernel_rfl) (by kernel_rfl) (by kernel_rfl) (by kernel_rfl) (fun _ _ _ h => h) (by exact SW.out z HBZ.out) (fun o hop => ?_) ?_
                rotate_left
                · injection hop with hop
                  subst hop
                  refine ⟨rfl, fun W' hW => ?_⟩
                  obtain ⟨s0, s1, s2, s3, s4, s5, s6, s7⟩ := hW
                  go_simp
                  first
                  | rfl
                  | (constructor <;> rfl)
                try simp only [Act.put, List.setIfInBounds_toArray, List.set_cons_zero, List.set_cons_succ]
                refine wpAnyD_takeAt 10 (some 69) (v := ?_) rfl (by kernel_rfl) (by kernel_rfl) (by kernel_rfl) (by kernel_rfl) (by kernel_rfl) (fun _ _ _ h => h) (by exact SW.out z HBZ.out) (fun o hop => ?_) ?_
                rotate_left
                · injection hop with hop
                  subst hop
                  refine ⟨rfl, fun W' hW => ?_⟩
                  obtain ⟨s0, s1, s2, s3, s4, s5, s6, s7⟩ := hW
                  go_simp
                  first
                  | rfl
                  | (constructor <;> rfl)
                try simp only [Act.put, List.setIfInBounds_toArray, List.set_cons_zero, List.set_cons_succ]

                refine wpAnyT_one (i := 11) (by kernel_rfl) rfl rfl (fun K' hK => ?_)
                go_simp
                go_at_call 13
                refine (HA.out z p (HBW.out.trans (HBZ.out.mono HBW.out.size)) hp).mono ?_
                rintro e z2 ⟨F2, rfl, hFs2, hF2, hbz2⟩
                have HNE2 : Hid (F2 ≠ F) := fun e => by
                  have h1 := HI.out.1.at_
                  have h2 := HBZ.out.size
                  omega
                have HBZ2 : Hid (Below wr.heap.size wr z2) := HBZ.out.trans (hbz2.mono HBZ.out.size)
                have HF2 := hide' hF2
                refine hK.out _ _ (fun _ => SW.out z2 HBZ2.out) ?_
                clear hK K' hF2 hbz2 HBZ hFs2
                try simp only [Act.put, List.setIfInBounds_toArray, List.set_cons_zero, List.set_cons_succ]
                refine wpAnyT_one (i := 12) (by kernel_rfl) rfl rfl (fun K' hK => ?_)
                go_simp
                refine hK.out _ _ (fun h => absurd rfl h) ?_
                clear hK K' SW
                try simp only [Act.put, List.setIfInBounds_toArray, List.set_cons_zero, List.set_cons_succ]
                refine wpAnyT_done (by kernel_rfl) ?_ _
                have HZ0 : Hid (IntsF z2 F n (fun x => ((if x < 0 then minD n (targN n (serviceL W.net W.out)) (srcL W.net.gens W.on black (i + 1)) x else minD n (targN n (serviceL W.net W.out)) (srcL W.net.gens W.on black i) x : Nat) : Int)) ∧ Below w2.heap.size w2 z2) := ⟨(HI.out.1.below HBZ2.out).congr (fun x _ => by rw [if_neg (Nat.not_lt_zero x)]), HI.out.2.trans (HBZ2.out.mono HI.out.2.size)⟩
                clear HI HBZ2
                go_wp2_with fail
                go_loopw [11] (fun kv wr => ∃ (k : Nat), kv = .int .i64 k ∧ k ≤ n ∧ Hid (IntsF wr F n (fun x => ((if x < k then minD n (targN n (serviceL W.net W.out)) (srcL W.net.gens W.on black (i + 1)) x else minD n (targN n (serviceL W.net W.out)) (srcL W.net.gens W.on black i) x : Nat) : Int)) ∧ Below w2.heap.size w2 wr) ∧ Hid (∀ j, j < n → wr.cell? ⟨F2, j, none⟩ = some (.int .i64 (((targN n (serviceL W.net W.out)) p j : Nat) : Int)))) (fun kv _ => n - (intOf kv).toNat)
                case atStart => exact ⟨0, rfl, Nat.zero_le _, HZ0.out, HF2.out⟩
                case round =>
                  clear HZ0 HF2
                  obtain ⟨k, rfl, hk, HI, HD⟩ := hrel
                  by_cases hkn : k < n
                  · have d1 := HD.out k hkn
                    obtain ⟨m1, m2⟩ := HI.out.1.cell hkn
                    simp only [Nat.lt_irrefl, if_false] at m1
                    have HMS : Hid (minD n (targN n (serviceL W.net W.out)) (srcL W.net.gens W.on black (i + 1)) k = if (targN n (serviceL W.net W.out)) p k < minD n (targN n (serviceL W.net W.out)) (srcL W.net.gens W.on black i) k then (targN n (serviceL W.net W.out)) p k else minD n (targN n (serviceL W.net W.out)) (srcL W.net.gens W.on black i) k) := by
                      show _ = _
                      rw [HSS.out, minD_snoc]
                    have HST : Hid (IntsF (wr.setCell ⟨F, k, none⟩ (.int .i64 (((targN n (serviceL W.net W.out)) p k : Nat) : Int))) F n (fun x => if x = k then (((targN n (serviceL W.net W.out)) p k : Nat) : Int) else ((if x < k then minD n (targN n (serviceL W.net W.out)) (srcL W.net.gens W.on black (i + 1)) x else minD n (targN n (serviceL W.net W.out)) (srcL W.net.gens W.on black i) x : Nat) : Int)) ∧ Below w2.heap.size w2 (wr.setCell ⟨F, k, none⟩ (.int .i64 (((targN n (serviceL W.net W.out)) p k : Nat) : Int))) ∧ ∀ j, j < n → (wr.setCell ⟨F, k, none⟩ (.int .i64 (((targN n (serviceL W.net W.out)) p k : Nat) : Int))).cell? ⟨F2, j, none⟩ = some (.int .i64 (((targN n (serviceL W.net W.out)) p j : Nat) : Int))) := ⟨HI.out.1.set hkn _, HI.out.2.setCell (p := ⟨F, k, none⟩) HFB.out _, fun j hj => (World.cell?_of_block (Below.heap_setCell _ _ _ F2 HNE2.out)).trans (HD.out j hj)⟩
                    obtain ⟨t, ht⟩ : ∃ t, t = (targN n (serviceL W.net W.out)) p k := ⟨_, rfl⟩
                    obtain ⟨m, hm⟩ : ∃ m, m = minD n (targN n (serviceL W.net W.out)) (srcL W.net.gens W.on black i) k := ⟨_, rfl⟩
                    rw [← ht, ← hm] at HMS
                    rw [← ht] at HST d1
                    rw [← hm] at m1
                    by_cases hlt : t < m
                    · have HN : Hid (∀ q, IntsF ((wr.drewN q).setCell ⟨F, k, none⟩ (.int .i64 (t : Int))) F n (fun x => ((if x < k + 1 then minD n (targN n (serviceL W.net W.out)) (srcL W.net.gens W.on black (i + 1)) x else minD n (targN n (serviceL W.net W.out)) (srcL W.net.gens W.on black i) x : Nat) : Int)) ∧ Below w2.heap.size w2 ((wr.drewN q).setCell ⟨F, k, none⟩ (.int .i64 (t : Int)))) := by
                        refine fun q => ⟨?_, (below_drewN HI.out.2 q).setCell (p := ⟨F, k, none⟩) HFB.out _⟩
                        refine (HST.out.1.keep rfl : IntsF ((wr.drewN q).setCell ⟨F, k, none⟩ (.int .i64 (t : Int))) F n _).congr (fun x _ => ?_)
                        by_cases e : x = k
                        · subst e
                          rw [if_pos rfl, if_pos (Nat.lt_succ_self _), HMS.out, if_pos hlt]
                        · rw [if_neg e]
                          by_cases e2 : x < k
                          · rw [if_pos e2, if_pos (by omega)]
                          · rw [if_neg e2, if_neg (by omega)]
                      have HD2 : Hid (∀ q, ∀ j, j < n → ((wr.drewN q).setCell ⟨F, k, none⟩ (.int .i64 (t : Int))).cell? ⟨F2, j, none⟩ = some (.int .i64 (((targN n (serviceL W.net W.out)) p j : Nat) : Int))) := fun q j hj => HST.out.2.2 j hj
                      clear HI HD HST HMS ht hm
                      go_upto_region 19 with fail
                      go_quiet (fail)
                      go_wp2_with fail
                      go_roundw
                      case rel => exact ⟨k + 1, by go_num, by omega, HN.out _, HD2.out _⟩
                      case measure => simp only [intOf]; omega
                    · have HN : Hid (∀ q, IntsF (wr.drewN q) F n (fun x => ((if x < k + 1 then minD n (targN n (serviceL W.net W.out)) (srcL W.net.gens W.on black (i + 1)) x else minD n (targN n (serviceL W.net W.out)) (srcL W.net.gens W.on black i) x : Nat) : Int)) ∧ Below w2.heap.size w2 (wr.drewN q)) := by
                        refine fun q => ⟨?_, below_drewN HI.out.2 q⟩
                        refine (HI.out.1.keep rfl : IntsF (wr.drewN q) F n _).congr (fun x _ => ?_)
                        by_cases e : x = k
                        · subst e
                          rw [if_neg (Nat.lt_irrefl _), if_pos (Nat.lt_succ_self _), HMS.out, if_neg hlt, hm]
                        · by_cases e2 : x < k
                          · rw [if_pos e2, if_pos (by omega)]
                          · rw [if_neg e2, if_neg (by omega)]
                      have HD2 : Hid (∀ q, ∀ j, j < n → (wr.drewN q).cell? ⟨F2, j, none⟩ = some (.int .i64 (((targN n (serviceL W.net W.out)) p j : Nat) : Int))) := fun q j hj => HD.out j hj
                      have hlt2 : decide ((t : Int) < (m : Int)) = false := decide_eq_false (by omega)
                      clear HI HD HST HMS ht hm
                      go_upto_region 19 with fail
                      go_quiet (fail)
                      go_wp2_with fail
                      go_roundw
                      case rel => exact ⟨k + 1, by go_num, by omega, HN.out _, HD2.out _⟩
                      case measure => simp only [intOf]; omega
                  · have hke : k = n := by omega
                    have HN : Hid (IntsF wr F n (fun x => ((minD n (targN n (serviceL W.net W.out)) (srcL W.net.gens W.on black (i + 1)) x : Nat) : Int)) ∧ Below w2.heap.size w2 wr) := ⟨HI.out.1.congr (fun x hx => by rw [if_pos (by omega)]), HI.out.2⟩
                    clear HI HD hke
                    go_wp2_with fail
                    go_roundw
                    case rel => exact ⟨i + 1, by go_num, by omega, HN.out⟩
                    case measure => simp only [intOf]; omega
          · have hie : i = W.net.gens.length := by omega
            subst hie
            obtain ⟨D, HDD⟩ : ∃ D, Hid (D = minD n (targN n (serviceL W.net W.out)) (srcL W.net.gens W.on black W.net.gens.length)) := ⟨_, rfl⟩
            rw [← HDD.out] at HI
            have HWL : Hid (lvls n D n = wakeL W black) := by
              show _ = _
              unfold wakeL nearW
              rw [← HNN.out, HDD.out]
            have HBW := hide' (HB2.out.trans (HI.out.2.mono HB2.out.size))
            go_wp2_with fail
            obtain ⟨wv, hwv⟩ : ∃ x, x = wr := ⟨_, rfl⟩
            have HI0 := HI
            rw [← hwv] at HI0 HBW
            clear HI
            have HI := HI0
            clear HI0
            rw [← hwv]
            clear hwv
            go_loopw [12, 13] (fun ov fv wz => ∃ (i : Nat), fv = .int .i64 i ∧ i ≤ n ∧ Hid (wz.ownsRow wv.heap.size 3 1 ov (lvls n D i).length (ints (natI (lvls n D i))) ∧ Below wv.heap.size wv wz)) (fun _ fv _ => n - (intOf fv).toNat)
            case atStart => exact ⟨0, rfl, Nat.zero_le _, World.ownsRow_nil _ _ _ _, Below.refl _ wv⟩
            case round =>
              obtain ⟨i, rfl, hi, HO⟩ := hrel
              by_cases hin : i < n
              · go_wp2_with fail
                go_loopw [12, 14] (fun ov jv wz => ∃ (j : Nat), jv = .int .i64 j ∧ j ≤ n ∧ Hid (wz.ownsRow wv.heap.size 3 1 ov (lvls n D i ++ lvlU D i j).length (ints (natI (lvls n D i ++ lvlU D i j))) ∧ Below wv.heap.size wv wz)) (fun _ jv _ => n - (intOf jv).toNat)
                case atStart =>
                  refine ⟨0, rfl, Nat.zero_le _, ?_⟩
                  rw [show lvlU D i 0 = [] from rfl, List.append_nil]
                  exact HO.out
                case round =>
                  clear HO
                  obtain ⟨j, rfl, hj, HO⟩ := hrel
                  by_cases hjn : j < n
                  · have m1 := up_cell HO.out.2 (HI.out.1.cell hjn).1
                    have HLE2 : Hid ((lvls n D i ++ lvlU D i j).length ≤ 16) := Nat.le_trans (lvlU_len hj) hn16
                    by_cases hd : D j = i
                    · have HLU := hide' (lvlU_yes hd)
                      rw [hd] at m1
                      clear hd
                      go_wp2_with (at_builtin; refine wpList_append_own _ rfl _ _ 30 rfl wv.heap.size 3 i3 (.int .i64 0) 1 8 Tryz.underlying30 hi3 h30 h31 h32 rfl (by decide) _ _ _ rfl (own_below HO.out.1 (below_al _ _) (Nat.le_refl _)) ⟨wr.heap.size, 0, none⟩ 1 1 [.int .i64 (j : Int)] rfl rfl (cell_one_new _ _ _) (one_cell rfl) (by have := HLE2.out; unfold maxLen; omega) (by have := HLE2.out; omega) (Nat.le_trans HO.out.2.size (below_al _ _).size) ?_; intro v' w8 hown' hgrow _; refine Still.go ?_)
                      unfold Still
                      have HO8 : Hid (w8.ownsRow wv.heap.size 3 1 v' (lvls n D i ++ lvlU D i (j + 1)).length (ints (natI (lvls n D i ++ lvlU D i (j + 1)))) ∧ Below wv.heap.size wv w8) := by
                        refine ⟨?_, below_app HO.out.2 HO.out.1 (Nat.le_refl _) HO.out.2.size hgrow⟩
                        rw [HLU.out, ← List.append_assoc, natI_snoc, List.length_append]
                        exact hown'
                      clear hown' hgrow HO HLE2 m1
                      go_wp2_with fail
                      go_roundw
                      case rel => exact ⟨j + 1, by go_num, by omega, HO8.out⟩
                      case measure => simp only [intOf]; omega
                    · have hne : (((D j : Nat) : Int) == (i : Int)) = false := beq_eq_false_iff_ne.2 (fun e => hd (by omega))
                      have how := HO.out
                      rw [← lvlU_no hd] at how
                      have HO8 := hide' how
                      obtain ⟨dj, hdj⟩ : ∃ x, x = D j := ⟨_, rfl⟩
                      rw [← hdj] at m1 hne
                      clear how hd HO hdj
                      go_wp2_with fail
                      go_roundw
                      case rel => exact ⟨j + 1, by go_num, by omega, HO8.out⟩
                      case measure => simp only [intOf]; omega
                  · have hje : j = n := by omega
                    have how := HO.out
                    rw [hje, show lvls n D i ++ lvlU D i n = lvls n D (i + 1) from (lvls_succ n D i).symm] at how
                    have HO8 := hide' how
                    clear how HO hje
                    go_wp2_with fail
                    go_roundw
                    case rel => exact ⟨i + 1, by go_num, by omega, HO8.out⟩
                    case measure => simp only [intOf]; omega
              · have hie : i = n := by omega
                have how := HO.out.1
                rw [hie, HWL.out] at how
                have HO8 := hide' how
                clear how hie
                go_wp2_with fail
                go_ret2
                exact ⟨.inr (.inr ⟨HY.out, HLE.out, _, rfl, own_mono HO8.out HBW.out.size⟩), HBW.out.trans (HO.out.2.mono HBW.out.size)⟩
end Go.Proofs.YtpbalclhdhjnoaaGreatDoor.Bar
