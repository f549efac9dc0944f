/- The program's islands. -/
import Derived.Test.YtkcldnnopmagjabGreatDoorKBrd
namespace Go.Proofs.YtkcldnnopmagjabGreatDoor.Bar
open Go.RowKit Go.Shelf Doc

theorem serviceL_ends {N : NetM} (he : EndsM N) (out : List Bool) : Ends N.buses.length (serviceL N out) := fun l hl => by
  rcases List.mem_append.1 hl with hl | hl
  · exact linksN_ends he out _ l hl
  · exact linksT_ends he _ l hl
theorem serviceL_len {N : NetM} (hf : Fits N) (out : List Bool) : (serviceL N out).length ≤ 1000 := by
  have h1 := linksN_len N.lines out N.lines.length
  have h2 := linksT_len N.ties N.ties.length
  have h3 := hf.2.1
  have h4 := hf.2.2.2.2
  rw [serviceL, List.length_append]
  omega
/-- The program's own answer on islands. -/
def IslandsAs (l : List Int) (N : NetM) (out : List Bool) (w : World) (e : Ending) (w' : World) : Prop :=
  (MayM N → out.length = N.lines.length → Answers l 0 w e w') ∧ (MayM N → out.length ≠ N.lines.length → Answers [] 2 w e w') ∧ (¬ MayM N → Answers [] 14 w e w')

set_option maxRecDepth 100000 in
set_option maxHeartbeats 4000000 in
theorem Islands_any (N : NetM) (B1 : Nat) (b l g d t outv : Value) (out : List Bool) (mx : Int) (w : World) (hsm : SmallM N) (htb : TabAll w) (ho : Owns w B1 b l g d t N) (hm : w.cell? ⟨1, 0, none⟩ = some (.int .i64 mx)) (hor : RowAt w outv out.length 1 (out.map Value.bool)) (hol : out.length ≤ 2000000) :
    Calls Tryz.prog 15 #[.agg #[.string N.name, b, l, g, d, t], outv] w (IslandsAs (groupsL N.buses.length (serviceL N out)) N out w) := by
  obtain ⟨ab, cb, rfl⟩ := own_slice ho.hb
  obtain ⟨al, cl, rfl⟩ := own_slice ho.hl
  obtain ⟨ag, cg, rfl⟩ := own_slice ho.hg
  obtain ⟨ad, cd, rfl⟩ := own_slice ho.hd
  obtain ⟨at', ct, rfl⟩ := own_slice ho.ht
  obtain ⟨W, hW⟩ : ∃ W, W = w.alloc (.cells #[.string N.name, .slice ab N.buses.length cb, .slice al N.lines.length cl, .slice ag N.gens.length cg, .slice ad N.loads.length cd, .slice at' N.ties.length ct] 28) := ⟨_, rfl⟩
  have hbW : Below w.heap.size w W := by rw [hW]; exact (Below.refl _ w).alloc (Nat.le_refl _) _
  have hoW : Owns W B1 (.slice ab N.buses.length cb) (.slice al N.lines.length cl) (.slice ag N.gens.length cg) (.slice ad N.loads.length cd) (.slice at' N.ties.length ct) N := by
    rw [hW]
    exact ⟨ho.hb.alloc _, ho.hl.alloc _, ho.hg.alloc _, ho.hd.alloc _, ho.ht.alloc _⟩
  have HIS := hide' (inService_any N B1 _ _ _ _ _ outv out mx W hsm (htb.later hbW) hoW ((hbW.cell (p := ⟨1, 0, none⟩) (World.block_lt_of_cell? w _ hm)).trans hm) (RowAt.below hor hbW (Nat.le_refl _)) hol)
  have HW := hide' hW
  have HBW := hide' hbW
  clear hW hoW hm htb hsm hor hbW ho
  go_enter Tryz.func15, Tryz.ntmps15
  go_wp2_with fail
  rw [← HW.out]
  refine HIS.out.mono ?_
  rintro e w1 ⟨hb1, h1, h2, h3⟩
  have HB1 : Hid (Below w.heap.size w w1) := HBW.out.trans (hb1.mono HBW.out.size)
  clear hb1 HIS
  by_cases hmay : MayM N
  · by_cases hlen : out.length = N.lines.length
    · obtain ⟨a, c, rfl, hrow⟩ := h1 hmay hlen
      have HMay := hide' hmay
      have HLN := hide' hlen
      have HB2 : Hid (Below w.heap.size w (w1.alloc (.cells #[.int .i64 N.buses.length, .slice a (serviceL N out).length c] 80))) := HB1.out.alloc HB1.out.size _
      have HG := hide' (groups_any N.buses.length (by have := hmay.fits.1; omega) (serviceL N out) (serviceL_len hmay.fits out) (serviceL_ends (MayM.ends hmay) out) a c (w1.alloc (.cells #[.int .i64 N.buses.length, .slice a (serviceL N out).length c] 80)) (RowAt.below hrow ((Below.refl _ w1).alloc (Nat.le_refl _) _) (Nat.le_refl _)))
      clear h1 h2 h3 hmay hlen hrow
      go_wp2_with fail
      refine HG.out.mono ?_
      rintro e w3 ⟨F, rfl, hF0, hF, hb3⟩
      have HA : Hid (RowAt w3 (.slice (some ⟨F, 0, none⟩) N.buses.length N.buses.length) (groupsL N.buses.length (serviceL N out)).length 1 (ints (groupsL N.buses.length (serviceL N out)))) := rowAt_ints hF (groupsL_len _ _)
      have HB3 : Hid (Below w.heap.size w w3) := HB2.out.trans (hb3.mono HB2.out.size)
      clear hF0 hF hb3
      go_wp2
      refine bodyPost_ret (results_tmp2 rfl _ _ _) rfl ?_
      exact ⟨fun _ _ => ⟨_, rfl, HA.out, HB3.out⟩, fun _ h => absurd HLN.out h, fun h => absurd HMay.out h⟩
    · obtain rfl := h2 hmay hlen
      have HMay := hide' hmay
      have HLN := hide' hlen
      have HB2 : Hid (∀ o, Below w.heap.size w (w1.alloc o)) := fun o => HB1.out.alloc HB1.out.size o
      clear h1 h2 h3 hmay hlen
      go_wp2
      refine bodyPost_ret (results_tmp2 rfl _ _ _) rfl ?_
      exact ⟨fun _ h => absurd h HLN.out, fun _ _ => answers_nil (HB2.out _), fun h => absurd HMay.out h⟩
  · obtain rfl := h3 hmay
    have HMay := hide' hmay
    have HB2 : Hid (∀ o, Below w.heap.size w (w1.alloc o)) := fun o => HB1.out.alloc HB1.out.size o
    clear h1 h2 h3 hmay
    go_wp2
    refine bodyPost_ret (results_tmp2 rfl _ _ _) rfl ?_
    exact ⟨fun h => absurd h HMay.out, fun h => absurd h HMay.out, fun _ => answers_nil (HB2.out _)⟩
end Go.Proofs.YtkcldnnopmagjabGreatDoor.Bar

/- BarsNodes: at whatever network, the program's nodes and islands are as the document answers, if the two numberings are one. -/
namespace Go.Proofs.YtkcldnnopmagjabGreatDoor.Bar
open Go.RowKit Go.Shelf Doc

theorem _root_.Go.Proofs.YtkcldnnopmagjabGreatDoor.Doc.Bx1.net2 {w W : World} {p : Nat} {N : NetM} {b l g d t : Value} (h : Bx1 w W p N b l g d t) : NetAt W (.agg #[.string N.name, b, l, g, d, t]) N := ⟨b, l, g, d, t, rfl, h.hb, h.hl, h.hg, h.hd, h.ht⟩
theorem answers_row {l : List Int} {code : Int} {w : World} {e : Ending} {w' : World} (h : Answers l code w e w') : ∃ a c, e = .returned (.tuple #[.slice a l.length c, .int .i64 code]) ∧ RowAt w' (.slice a l.length c) l.length 1 (ints l) ∧ Below w.heap.size w w' := by
  obtain ⟨v, rfl, hr, hb⟩ := h
  obtain ⟨a, c, rfl⟩ := rowAt_slice hr
  exact ⟨a, c, rfl, hr, hb⟩
set_option maxRecDepth 100000 in
set_option maxHeartbeats 4000000 in
theorem BarsNodes_any (N : NetM) (v outv : Value) (out : List Bool) (mx : Int) (w : World) (hx : NetAt w v N) (hsm : SmallM N) (htb : TabAll w) (hm : w.cell? ⟨1, 0, none⟩ = some (.int .i64 mx)) (hor : RowAt w outv out.length 1 (out.map Value.bool)) (hol : out.length ≤ 2000000)
    (hp1 : MayM N → groupsL N.buses.length (linksT N.ties N.ties.length) = joinedL N [] false) (hp2 : MayM N → out.length = N.lines.length → groupsL N.buses.length (serviceL N out) = joinedL N out true) :
    Calls Tryz.prog 4 #[v, outv] w fun e w' => e = .returned (.bool true) ∧ Below w.heap.size w w' := by
  obtain ⟨la, ca, hla, hA1, hA2⟩ : ∃ (la : List Int) (ca : Int), la.length ≤ 1000 ∧ (∀ w e w', ((MayM N → Answers (groupsL N.buses.length (linksT N.ties N.ties.length)) 0 w e w') ∧ (¬ MayM N → Answers [] 14 w e w')) → Answers la ca w e w') ∧ (∀ w e w', ((MayM N → Answers (joinedL N [] false) 0 w e w') ∧ (¬ MayM N → Answers [] 14 w e w')) → Answers la ca w e w') := by
    by_cases h : MayM N
    · exact ⟨joinedL N [] false, 0, by rw [joinedL_len]; have := h.fits.1; omega, fun w e w' h1 => by rw [← hp1 h]; exact h1.1 h, fun w e w' h1 => h1.1 h⟩
    · exact ⟨[], 14, Nat.zero_le _, fun w e w' h1 => h1.2 h, fun w e w' h1 => h1.2 h⟩
  obtain ⟨lc, cc, hlc, hC1, hC2⟩ : ∃ (lc : List Int) (cc : Int), lc.length ≤ 1000 ∧ (∀ w e w', IslandsAs (groupsL N.buses.length (serviceL N out)) N out w e w' → Answers lc cc w e w') ∧ (∀ w e w', IslandsAs (joinedL N out true) N out w e w' → Answers lc cc w e w') := by
    by_cases h : MayM N
    · by_cases h2 : out.length = N.lines.length
      · exact ⟨joinedL N out true, 0, by rw [joinedL_len]; have := h.fits.1; omega, fun w e w' h1 => by rw [← hp2 h h2]; exact h1.1 h h2, fun w e w' h1 => h1.1 h h2⟩
      · exact ⟨[], 2, Nat.zero_le _, fun w e w' h1 => h1.2.1 h h2, fun w e w' h1 => h1.2.1 h h2⟩
    · exact ⟨[], 14, Nat.zero_le _, fun w e w' h1 => h1.2.2 h, fun w e w' h1 => h1.2.2 h⟩
  obtain ⟨b, l, g, d, t, rfl, hb, hl, hg, hd, ht⟩ := hx
  obtain ⟨ab, cb, rfl⟩ := rowAt_slice hb
  obtain ⟨al, cl, rfl⟩ := rowAt_slice hl
  obtain ⟨ag, cg, rfl⟩ := rowAt_slice hg
  obtain ⟨ad, cd, rfl⟩ := rowAt_slice hd
  obtain ⟨at', ct, rfl⟩ := rowAt_slice ht
  have hlens : lens2 N := hsm.lens
  obtain ⟨W, hW⟩ : ∃ W, W = w.alloc (.cells #[.string N.name, .slice ab N.buses.length cb, .slice al N.lines.length cl, .slice ag N.gens.length cg, .slice ad N.loads.length cd, .slice at' N.ties.length ct] 28) := ⟨_, rfl⟩
  have HX := hide' (Bx1.make hb hl hg hd ht hW)
  have h1w : 1 < w.heap.size := World.block_lt_of_cell? w _ hm
  have HKM : Hid (∀ W', Below w.heap.size w W' → W'.cell? ⟨1, 0, none⟩ = some (.int .i64 mx)) := fun W' h => (h.cell (p := ⟨1, 0, none⟩) h1w).trans hm
  have HKO : Hid (∀ W', Below w.heap.size w W' → RowAt W' outv out.length 1 (out.map Value.bool)) := fun W' h => RowAt.below hor h (Nat.le_refl _)
  have HTB := hide' htb
  have HSM := hide' hsm
  have HN1 := hide' (NetOf_any N _ W HX.out.net2 hlens)
  have HLN := hide' hlens
  have HA1 := hide' hA1
  have HA2 := hide' hA2
  have HC1 := hide' hC1
  have HC2 := hide' hC2
  obtain ⟨k0, k1, k2, k3, k4, k5, kf⟩ := cells28 HX.out.box
  have HW := hide' hW
  clear hW hb hl hg hd ht hsm htb hm h1w hlens hp1 hp2 hA1 hA2 hC1 hC2 hor
  go_enter Tryz.func4, Tryz.ntmps4
  go_wp2_with fail
  rw [← HW.out]
  refine HN1.out.mono ?_
  rintro e w1 ⟨b1, l1, g1, d1, t1, rfl, ho1, hb1⟩
  have HX1 := hide' (HX.out.later hb1)
  have HS := hide' (Nodes_any N _ _ _ _ _ _ mx w1 HSM.out (HTB.out.later HX1.out.bel) ho1 (HKM.out _ HX1.out.bel))
  clear ho1 hb1 k0 k1 k2 k3 k4 k5 kf HX HN1
  go_wp2_with fail
  refine HS.out.mono ?_
  intro e w2 hans
  obtain ⟨a1, c1, rfl, hrow1, hb2⟩ := answers_row (HA1.out _ _ _ hans)
  have HX2 := hide' (HX1.out.later hb2)
  have HR1 := hide' hrow1
  have HD2 := hide' (NodesOf_any N _ w2 HX2.out.net2 HSM.out)
  obtain ⟨k0, k1, k2, k3, k4, k5, kf⟩ := cells28 HX2.out.box
  clear hb2 hrow1 hans HX1 HS
  go_wp2_with fail
  refine HD2.out.mono ?_
  intro e w3 hans
  obtain ⟨a2, c2, rfl, hrow2, hb3⟩ := answers_row (HA2.out _ _ _ hans)
  have HX3 := hide' (HX2.out.later hb3)
  have HR13 := hide' (RowAt.below HR1.out hb3 (Nat.le_refl _))
  have HR2 := hide' hrow2
  have HN3 := hide' (NetOf_any N _ w3 HX3.out.net2 HLN.out)
  clear hb3 hrow2 hans HX2 HD2 HR1 k0 k1 k2 k3 k4 k5 kf
  obtain ⟨k0, k1, k2, k3, k4, k5, kf⟩ := cells28 HX3.out.box
  go_wp2_with fail
  refine HN3.out.mono ?_
  rintro e w4 ⟨b4, l4, g4, d4, t4, rfl, ho4, hb4⟩
  have HX4 := hide' (HX3.out.later hb4)
  have HR14 := hide' (RowAt.below HR13.out hb4 (Nat.le_refl _))
  have HR24 := hide' (RowAt.below HR2.out hb4 (Nat.le_refl _))
  have HSD := hide' (sides_any out outv w4 (HKO.out _ HX4.out.bel) hol)
  have HO4 := hide' ho4
  clear ho4 hb4 HX3 HN3 HR13 HR2 k0 k1 k2 k3 k4 k5 kf
  go_wp2_with fail
  refine HSD.out.mono ?_
  rintro e w5 ⟨ov, rfl, hov, hb5⟩
  have HX5 := hide' (HX4.out.later hb5)
  have HR15 := hide' (RowAt.below HR14.out hb5 (Nat.le_refl _))
  have HR25 := hide' (RowAt.below HR24.out hb5 (Nat.le_refl _))
  have hup : ∀ {e sz m : Nat} {v : Value} {xs : List Value}, w4.ownsRow w3.heap.size e sz v m xs → w5.ownsRow w3.heap.size e sz v m xs := fun h => own_other h (fun k hk => hb5.block k (by
    rcases h.2 with ⟨rfl, _⟩ | ⟨g, cp, cur, rfl, _, h5, _⟩
    · cases hk
    · cases hk; exact (Array.getElem?_eq_some_iff.1 h5).1))
  have hO5 : Owns w5 w3.heap.size b4 l4 g4 d4 t4 N := ⟨hup HO4.out.hb, hup HO4.out.hl, hup HO4.out.hg, hup HO4.out.hd, hup HO4.out.ht⟩
  have HIS := hide' (Islands_any N _ _ _ _ _ _ ov out mx w5 HSM.out (HTB.out.later HX5.out.bel) hO5 (HKM.out _ HX5.out.bel) (rowAt_of_own hov) hol)
  clear hb5 hov hO5 hup HO4 HX4 HSD HR14 HR24
  go_wp2_with fail
  refine HIS.out.mono ?_
  intro e w6 hans
  obtain ⟨a3, c3, rfl, hrow3, hb6⟩ := answers_row (HC1.out _ _ _ hans)
  have HX6 := hide' (HX5.out.later hb6)
  have HR16 := hide' (RowAt.below HR15.out hb6 (Nat.le_refl _))
  have HR26 := hide' (RowAt.below HR25.out hb6 (Nat.le_refl _))
  have HR3 := hide' hrow3
  have HD6 := hide' (IslandsOf_any N _ outv out w6 HX6.out.net2 HSM.out (HKO.out _ HX6.out.bel) hol)
  clear hb6 hrow3 hans HX5 HIS HR15 HR25
  obtain ⟨k0, k1, k2, k3, k4, k5, kf⟩ := cells28 HX6.out.box
  go_wp2_with fail
  refine HD6.out.mono ?_
  intro e w7 hans
  obtain ⟨a4, c4, rfl, hrow4, hb7⟩ := answers_row (HC2.out _ _ _ hans)
  have HX7 := hide' (HX6.out.later hb7)
  have HS1 := hide' (sameInts_any la _ _ w7 (RowAt.below HR16.out hb7 (Nat.le_refl _)) (RowAt.below HR26.out hb7 (Nat.le_refl _)) hla)
  have HR37 := hide' (RowAt.below HR3.out hb7 (Nat.le_refl _))
  have HR47 := hide' hrow4
  clear hb7 hrow4 hans HX6 HD6 HR16 HR26 HR3 k0 k1 k2 k3 k4 k5 kf
  go_wp2_with fail
  refine HS1.out.mono ?_
  rintro e w8 ⟨rfl, q, rfl⟩
  have hd : Below w7.heap.size w7 (w7.drewN q) := below_drewN (Below.refl _ w7) q
  have HS2 := hide' (sameInts_any lc _ _ (w7.drewN q) (RowAt.below HR37.out hd (Nat.le_refl _)) (RowAt.below HR47.out hd (Nat.le_refl _)) hlc)
  clear hd
  go_wp2_with fail
  refine HS2.out.mono ?_
  rintro e w9 ⟨rfl, q2, rfl⟩
  have HB9 : Hid (Below w.heap.size w ((w7.drewN q).drewN q2)) := below_drewN (below_drewN HX7.out.bel q) q2
  go_wp2
  go_ret
  exact ⟨rfl, below_drewN HX7.out.bel _⟩
end Go.Proofs.YtkcldnnopmagjabGreatDoor.Bar
