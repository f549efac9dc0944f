/- SecureFeeds: at whatever network and plan, the program feeds in what the document says, or tells the same fault. -/
import Derived.Test.YtakcpemboeekfadGreatDoorFd3
namespace Go.Proofs.YtakcpemboeekfadGreatDoor.Bar
open Go.RowKit Go.Shelf Doc

set_option maxRecDepth 100000 in
set_option maxHeartbeats 4000000 in
theorem SecureFeeds_any (N : NetM) (v pv : Value) (plan : List Int) (mx : Int) (w : World) (hx : NetAt w v N) (hsm : SmallM N) (htb : TabAll w) (hm : w.cell? ⟨1, 0, none⟩ = some (.int .i64 mx)) (hpr : RowAt w pv plan.length 1 (ints plan)) (hpl : plan.length ≤ 2000000) :
    Calls Tryz.prog 3 #[v, pv] w fun e w' => e = .returned (.bool true) ∧ Below w.heap.size w w' := by
  obtain ⟨la, ca, hla, hA⟩ := feeds_one N plan
  obtain ⟨b, l, g, d, t, rfl, hb, hl, hg, hd, ht⟩ := hx
  obtain ⟨ab, cb, rfl⟩ := rowAt_slice hb
  obtain ⟨al, cl, rfl⟩ := rowAt_slice hl
  obtain ⟨ag, cg, rfl⟩ := rowAt_slice hg
  obtain ⟨ad, cd, rfl⟩ := rowAt_slice hd
  obtain ⟨at', ct, rfl⟩ := rowAt_slice ht
  have hlens : lens2 N := hsm.lens
  obtain ⟨W, hW⟩ : ∃ W, W = w.alloc (.cells #[.string N.name, .slice ab N.buses.length cb, .slice al N.lines.length cl, .slice ag N.gens.length cg, .slice ad N.loads.length cd, .slice at' N.ties.length ct] 28) := ⟨_, rfl⟩
  have HX := hide' (Bx1.make hb hl hg hd ht hW)
  have h1w : 1 < w.heap.size := World.block_lt_of_cell? w _ hm
  have HKM : Hid (∀ W', Below w.heap.size w W' → W'.cell? ⟨1, 0, none⟩ = some (.int .i64 mx)) := fun W' h => (h.cell (p := ⟨1, 0, none⟩) h1w).trans hm
  have HKP : Hid (∀ W', Below w.heap.size w W' → RowAt W' pv plan.length 1 (ints plan)) := fun W' h => RowAt.below hpr h (Nat.le_refl _)
  have HTB := hide' htb
  have HSM := hide' hsm
  have HN1 := hide' (NetOf_any N _ W HX.out.net2 hlens)
  have HA := hide' hA
  obtain ⟨k0, k1, k2, k3, k4, k5, kf⟩ := cells28 HX.out.box
  have HW := hide' hW
  clear hW hb hl hg hd ht hsm htb hm h1w hlens hA hpr
  go_enter Tryz.func3, Tryz.ntmps3
  go_wp2_with fail
  rw [← HW.out]
  refine HN1.out.mono ?_
  rintro e w1 ⟨b1, l1, g1, d1, t1, rfl, ho1, hb1⟩
  have HX1 := hide' (HX.out.later hb1)
  have HIN := hide' (ints_any plan pv w1 (HKP.out _ HX1.out.bel) hpl)
  have HO1 := hide' ho1
  clear ho1 hb1 k0 k1 k2 k3 k4 k5 kf HN1
  go_wp2_with fail
  refine HIN.out.mono ?_
  rintro e w2 ⟨qv, rfl, hqv, hb2⟩
  have HX2 := hide' (HX1.out.later hb2)
  have hup : ∀ {e sz m : Nat} {v : Value} {xs : List Value}, w1.ownsRow W.heap.size e sz v m xs → w2.ownsRow W.heap.size e sz v m xs := fun h => own_other h (fun k hk => hb2.block k (by
    rcases h.2 with ⟨rfl, _⟩ | ⟨g, cp, cur, rfl, _, h5, _⟩
    · cases hk
    · cases hk; exact (Array.getElem?_eq_some_iff.1 h5).1))
  have hO2 : Owns w2 W.heap.size b1 l1 g1 d1 t1 N := ⟨hup HO1.out.hb, hup HO1.out.hl, hup HO1.out.hg, hup HO1.out.hd, hup HO1.out.ht⟩
  have HFE := hide' (Feeds_any N _ _ _ _ _ _ qv plan mx w2 HSM.out (HTB.out.later HX2.out.bel) hO2 (HKM.out _ HX2.out.bel) (rowAt_of_own hqv))
  clear hb2 hqv hO2 hup HO1 HX1 HIN HX
  go_wp2_with fail
  refine HFE.out.mono ?_
  intro e w3 hans
  obtain ⟨a3, c3, rfl, hrow3, hb3⟩ := answers_row (HA.out _ _ _ hans)
  have HX3 := hide' (HX2.out.later hb3)
  have HR3 := hide' hrow3
  have HFO := hide' (FeedsOf_any N plan _ pv w3 HX3.out.net2 HSM.out (HKP.out _ HX3.out.bel))
  clear hb3 hrow3 hans HX2 HFE
  obtain ⟨k0, k1, k2, k3, k4, k5, kf⟩ := cells28 HX3.out.box
  go_wp2_with fail
  refine HFO.out.mono ?_
  intro e w4 hans
  obtain ⟨a4, c4, rfl, hrow4, hb4⟩ := answers_row (HA.out _ _ _ hans)
  have HX4 := hide' (HX3.out.later hb4)
  have HS := hide' (sameInts_any la _ _ w4 (RowAt.below HR3.out hb4 (Nat.le_refl _)) hrow4 hla)
  clear hb4 hrow4 hans HX3 HFO HR3 k0 k1 k2 k3 k4 k5 kf
  go_wp2_with fail
  refine HS.out.mono ?_
  rintro e w5 ⟨rfl, q, rfl⟩
  have HB5 : Hid (Below w.heap.size w (w4.drewN q)) := below_drewN HX4.out.bel q
  clear HS HX4
  go_wp2
  go_ret
  exact ⟨rfl, HB5.out⟩
end Go.Proofs.YtakcpemboeekfadGreatDoor.Bar
