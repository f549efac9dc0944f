/- WiresShows: at whatever network, what the program shows and whether it may be are as the document answers. -/
import Derived.Test.YtkcldnnopmagjabGreatDoorKDc5
import Derived.Test.YtkcldnnopmagjabGreatDoorKDc7
import Derived.Test.YtkcldnnopmagjabGreatDoorKGw3
namespace Go.Proofs.YtkcldnnopmagjabGreatDoor.Doc
open Go.RowKit

theorem Bx1.net {w W : World} {p : Nat} {N : NetM} {b l g d t : Value} (h : Bx1 w W p N b l g d t) : NetAt W (.agg #[.string N.name, b, l, g, d, t]) N := ⟨b, l, g, d, t, rfl, h.hb, h.hl, h.hg, h.hd, h.ht⟩

set_option maxRecDepth 100000 in
set_option maxHeartbeats 4000000 in
theorem WiresShows_any (N : NetM) (v : Value) (mx : Int) (w : World) (hx : NetAt w v N) (hsm : SmallM N) (htb : TabAll w) (hm : w.cell? ⟨1, 0, none⟩ = some (.int .i64 mx)) :
    Calls Tryz.prog 3 #[v] w fun e w' => e = .returned (.bool true) ∧ Below w.heap.size w w' := by
  obtain ⟨b, l, g, d, t, rfl, hb, hl, hg, hd, ht⟩ := hx
  obtain ⟨ab, cb, rfl⟩ := rowAt_slice hb
  obtain ⟨al, cl, rfl⟩ := rowAt_slice hl
  obtain ⟨ag, cg, rfl⟩ := rowAt_slice hg
  obtain ⟨ad, cd, rfl⟩ := rowAt_slice hd
  obtain ⟨at', ct, rfl⟩ := rowAt_slice ht
  have hlens : lens2 N := hsm.lens
  obtain ⟨W, hW⟩ : ∃ W, W = w.alloc (.cells #[.string N.name, .slice ab N.buses.length cb, .slice al N.lines.length cl, .slice ag N.gens.length cg, .slice ad N.loads.length cd, .slice at' N.ties.length ct] 28) := ⟨_, rfl⟩
  have HX := hide' (Bx1.make hb hl hg hd ht hW)
  have h1w : 1 < w.heap.size := World.block_lt_of_cell? w _ hm
  have HKM : Hid (∀ W', Below w.heap.size w W' → W'.cell? ⟨1, 0, none⟩ = some (.int .i64 mx)) := fun W' h => (h.cell (p := ⟨1, 0, none⟩) h1w).trans hm
  have HTB := hide' htb
  have HSM := hide' hsm
  have HN1 := hide' (NetOf_any N _ W HX.out.net hlens)
  have HLN := hide' hlens
  obtain ⟨k0, k1, k2, k3, k4, k5, kf⟩ := cells28 HX.out.box
  have HW := hide' hW
  clear hW hb hl hg hd ht hsm htb hm h1w hlens
  go_enter Tryz.func3, Tryz.ntmps3
  go_wp2_with fail
  rw [← HW.out]
  refine HN1.out.mono ?_
  rintro e w1 ⟨b1, l1, g1, d1, t1, rfl, ho1, hb1⟩
  have HX1 := hide' (HX.out.later hb1)
  have HS := hide' (Show_any N _ _ _ _ _ _ mx w1 HSM.out (HTB.out.later HX1.out.bel) ho1 (HKM.out _ HX1.out.bel))
  clear ho1 hb1 k0 k1 k2 k3 k4 k5 kf HX HN1
  go_wp2_with fail
  refine HS.out.mono ?_
  rintro e w2 ⟨hout, hb2⟩
  have HX2 := hide' (HX1.out.later hb2)
  have HN2 := hide' (NetOf_any N _ w2 HX2.out.net HLN.out)
  obtain ⟨k0, k1, k2, k3, k4, k5, kf⟩ := cells28 HX2.out.box
  clear hb2 HX1 HS
  rcases hout with ⟨hmay, rfl⟩ | ⟨hno, rfl⟩
  · have HMay := hide' hmay
    clear hmay
    go_wp2_with fail
    refine HN2.out.mono ?_
    rintro e w3 ⟨b2, l2, g2, d2, t2, rfl, ho2, hb3⟩
    have HX3 := hide' (HX2.out.later hb3)
    have HM := hide' (May_any N _ _ _ _ _ _ mx w3 HSM.out (HTB.out.later HX3.out.bel) ho2 (HKM.out _ HX3.out.bel))
    clear ho2 hb3 k0 k1 k2 k3 k4 k5 kf HX2 HN2
    go_wp2_with fail
    refine HM.out.mono ?_
    rintro e w4 ⟨⟨r, rfl, hr⟩, hb4⟩
    obtain rfl : r = true := hr.2 HMay.out
    have HX4 := hide' (HX3.out.later hb4)
    have HNM := hide' (NetMay_any N _ w4 HX4.out.net HSM.out)
    obtain ⟨k0, k1, k2, k3, k4, k5, kf⟩ := cells28 HX4.out.box
    clear hr hb4 HX3 HM
    go_wp2_with fail
    refine HNM.out.mono ?_
    rintro e w5 ⟨⟨r, rfl, hr⟩, hb5⟩
    obtain rfl : r = true := hr.2 HMay.out
    have HX5 := hide' (HX4.out.later hb5)
    have HNT := hide' (NetText_any N _ w5 HX5.out.net HMay.out)
    obtain ⟨k0, k1, k2, k3, k4, k5, kf⟩ := cells28 HX5.out.box
    clear hr hb5 HX4 HNM
    go_wp2_with fail
    refine HNT.out.mono ?_
    rintro e w6 ⟨rfl, hb6⟩
    have HX6 := hide' (HX5.out.later hb6)
    clear hb6 HX5 HNT k0 k1 k2 k3 k4 k5 kf
    go_wp2
    go_ret
    exact ⟨ret_bool (by simp), HX6.out.bel⟩
  · have HNo := hide' hno
    clear hno
    go_wp2_with fail
    refine HN2.out.mono ?_
    rintro e w3 ⟨b2, l2, g2, d2, t2, rfl, ho2, hb3⟩
    have HX3 := hide' (HX2.out.later hb3)
    have HM := hide' (May_any N _ _ _ _ _ _ mx w3 HSM.out (HTB.out.later HX3.out.bel) ho2 (HKM.out _ HX3.out.bel))
    clear ho2 hb3 k0 k1 k2 k3 k4 k5 kf HX2 HN2
    go_wp2_with fail
    refine HM.out.mono ?_
    rintro e w4 ⟨⟨r, rfl, hr⟩, hb4⟩
    obtain rfl : r = false := by
      cases r with
      | false => rfl
      | true => exact absurd (hr.1 rfl) HNo.out
    have HX4 := hide' (HX3.out.later hb4)
    have HNM := hide' (NetMay_any N _ w4 HX4.out.net HSM.out)
    obtain ⟨k0, k1, k2, k3, k4, k5, kf⟩ := cells28 HX4.out.box
    clear hr hb4 HX3 HM
    go_wp2_with fail
    refine HNM.out.mono ?_
    rintro e w5 ⟨⟨r, rfl, hr⟩, hb5⟩
    obtain rfl : r = false := by
      cases r with
      | false => rfl
      | true => exact absurd (hr.1 rfl) HNo.out
    have HX5 := hide' (HX4.out.later hb5)
    clear hr hb5 HX4 HNM k0 k1 k2 k3 k4 k5 kf
    go_wp2
    go_ret
    exact ⟨ret_bool (by simp), HX5.out.bel⟩
end Go.Proofs.YtkcldnnopmagjabGreatDoor.Doc
