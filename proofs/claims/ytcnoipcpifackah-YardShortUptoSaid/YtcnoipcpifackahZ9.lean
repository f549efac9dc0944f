/- loaded, in the document's answer. -/
import Derived.Test.YtcnoipcpifackahZ8
namespace Go.Proofs.Ytcnoipcpifackah
open Go.RowKit Go.Shelf

/-- The boxes of loaded. -/
structure LB (w wr : World) (o : YardM) (Z Dv V n lf ld ls zcf zcd zcs : Nat) (zf zd : Option Addr) (kd : Int) (a b : Nat) : Prop where
  hZ : wr.heap[Z]? = some (.cells #[.int .i64 n, .slice zf lf zcf, .slice zd ld zcd, .slice (some ⟨V, 0, none⟩) ls zcs] 25 (0, 0))
  hD : wr.heap[Dv]? = some (.cells #[.int .i64 kd, .int .i64 a, .int .i64 b, .bool false] 45 (0, 0))
  ya : YardAt wr zf zd (some ⟨V, 0, none⟩) zcf zcd zcs o
  bel : Below w.heap.size w wr
theorem LB.more {w wr wr' : World} {o : YardM} {Z Dv V n lf ld ls zcf zcd zcs : Nat} {zf zd : Option Addr} {kd : Int} {a b : Nat} (h : LB w wr o Z Dv V n lf ld ls zcf zcd zcs zf zd kd a b) (hb : Below wr.heap.size wr wr') : LB w wr' o Z Dv V n lf ld ls zcf zcd zcs zf zd kd a b :=
  ⟨(hb.block Z (Array.getElem?_eq_some_iff.1 h.hZ).1).trans h.hZ, (hb.block Dv (Array.getElem?_eq_some_iff.1 h.hD).1).trans h.hD, h.ya.below hb (Nat.le_refl _), h.bel.trans (hb.mono h.bel.size)⟩
set_option maxRecDepth 100000 in
set_option maxHeartbeats 2000000 in
theorem loaded_any (y : YardM) (hm : MayY y) (k : Nat) (hk : k < y.devs.length) (hk3 : (y.dev k).kind ≠ 3) (af ad as' : Option Addr) (cf cd cs : Nat) (w : World) (hy : YardAt w af ad as' cf cd cs y) :
    Calls Try.prog 36 #[.agg #[.int .i64 y.points, .slice af y.fed.length cf, .slice ad y.drawn.length cd, .slice as' y.devs.length cs], .int .i64 k] w fun e w' => e = .returned (.bool (loadB y k)) ∧ Below w.heap.size w w' := by
  have HY := hide' hy
  have HM := hide' hm
  have HK := hide' hk
  have hd10 := hm.d
  have hlen := rising_small hm.f (by have := hm.p; omega)
  have hlen2 := rising_small hm.w (by have := hm.p; omega)
  have HOF : Hid (∀ w', Below w.heap.size w w' → Calls Try.prog 8 #[.agg #[.int .i64 y.points, .slice af y.fed.length cf, .slice ad y.drawn.length cd, .slice as' y.devs.length cs]] w' fun e w2 => ∃ af2 ad2 as2 cf2 cd2 cs2, e = .returned (.agg #[.int .i64 y.points, .slice af2 y.fed.length cf2, .slice ad2 y.drawn.length cd2, .slice as2 y.devs.length cs2]) ∧ (w2.ownsRow w'.heap.size 3 1 (.slice af2 y.fed.length cf2) y.fed.length (ints y.fed) ∧ w2.ownsRow w'.heap.size 3 1 (.slice ad2 y.drawn.length cd2) y.drawn.length (ints y.drawn) ∧ w2.ownsRow w'.heap.size 45 4 (.slice as2 y.devs.length cs2) y.devs.length (y.devs.flatMap DevM.cells)) ∧ Below w'.heap.size w' w2) := fun w' hb => YardOf_own y af ad as' cf cd cs w' (hy.below hb (Nat.le_refl _)) (by omega) (by omega) (by omega)
  obtain ⟨a, hae, ha⟩ := dev_a hm hk
  obtain ⟨b, hbe, hb⟩ := dev_b hm hk hk3
  have HDV : Hid ((y.dev k).cells = [.int .i64 (y.dev k).kind, .int .i64 a, .int .i64 b, .bool (y.dev k).shut]) := by show _ = _; rw [← hae, ← hbe]; rfl
  have HE : Hid (loadB y k = (!(sameG (y.opened k) a b) && (ontoB (y.opened k) a b || ontoB (y.opened k) b a))) := by show _ = _; unfold loadB sameG; rw [hae, hbe, Int.toNat_natCast, Int.toNat_natCast]
  have HOD := hide' (opened_devs hk)
  have HDG := hide' (dev_get hk).1
  obtain ⟨_, _, hpn⟩ := hm.n_le
  have hn10 := hm.n_le.2.1
  rw [hpn] at HOF ⊢
  obtain ⟨n, hn⟩ : ∃ n, n = y.n := ⟨_, rfl⟩
  obtain ⟨lf, hlf⟩ : ∃ l, l = y.fed.length := ⟨_, rfl⟩
  obtain ⟨ld, hld⟩ : ∃ l, l = y.drawn.length := ⟨_, rfl⟩
  obtain ⟨ls, hls⟩ : ∃ l, l = y.devs.length := ⟨_, rfl⟩
  obtain ⟨kd, hkd⟩ : ∃ l, l = (y.dev k).kind := ⟨_, rfl⟩
  have HLF := hide' hlf
  have HLD := hide' hld
  have HLS := hide' hls
  have HNN := hide' hn
  rw [← hn, ← hlf, ← hld, ← hls] at HOF ⊢
  rw [← hls] at hk hd10
  rw [← hkd] at HDV
  clear hy hm hn hlf hld hls hkd hae hbe hk3
  go_enter Try.func36, Try.ntmps36
  go_upto_region 1 with fail
  have HQ1 := hide' (alloc_new w (.cells #[.int .i64 n, .slice af lf cf, .slice ad ld cd, .slice as' ls cs] 25))
  have HB1 := hide' (below_al w (.cells #[.int .i64 n, .slice af lf cf, .slice ad ld cd, .slice as' ls cs] 25))
  obtain ⟨w1, hw1⟩ : ∃ x, x = w.alloc (.cells #[.int .i64 n, .slice af lf cf, .slice ad ld cd, .slice as' ls cs] 25) := ⟨_, rfl⟩
  obtain ⟨Y, hYY⟩ : ∃ Y, Y = w.heap.size := ⟨_, rfl⟩
  rw [← hw1] at HQ1 HB1 ⊢
  rw [← hYY] at HQ1
  rw [show (Value.pointer (some { block := w.heap.size, off := 0 })) = Value.pointer (some { block := Y, off := 0 }) by rw [hYY]]
  clear hw1 hYY
  have y0 : w1.cell? ⟨Y, 0, none⟩ = some (.int .i64 n) := (cells_at HQ1.out 0).trans rfl
  have y1 : w1.cell? ⟨Y, 1, none⟩ = some (.slice af lf cf) := (cells_at HQ1.out 1).trans rfl
  have y2 : w1.cell? ⟨Y, 2, none⟩ = some (.slice ad ld cd) := (cells_at HQ1.out 2).trans rfl
  have y3 : w1.cell? ⟨Y, 3, none⟩ = some (.slice as' ls cs) := (cells_at HQ1.out 3).trans rfl
  have HO1 := hide' (HOF.out w1 HB1.out)
  go_wp2_with fail
  refine HO1.out.mono ?_
  rintro e w2 ⟨zf, zd, za, zcf, zcd, zcs, rfl, ⟨ho1, ho2, ho3⟩, hb2⟩
  obtain ⟨V, rfl⟩ : ∃ V, za = some ⟨V, 0, none⟩ := by
    rcases ho3.2 with ⟨_, h0⟩ | ⟨g, cap, cur, h1, _⟩
    · omega
    · cases h1; exact ⟨g, rfl⟩
  have HB2 : Hid (Below w.heap.size w w2) := HB1.out.trans (hb2.mono HB1.out.size)
  have HO2 := hide' (own_base ho1 HB1.out.size)
  have HO3 := hide' (own_base ho2 HB1.out.size)
  have HO4 := hide' (own_base ho3 HB1.out.size)
  clear ho1 ho2 ho3 hb2 HO1 HOF HQ1 HB1 y0 y1 y2 y3
  go_upto_region 2 with fail
  have HZ3 := hide' (alloc_new w2 (.cells #[.int .i64 n, .slice zf lf zcf, .slice zd ld zcd, .slice (some ⟨V, 0, none⟩) ls zcs] 25))
  have HB3 := hide' (HB2.out.alloc HB2.out.size (.cells #[.int .i64 n, .slice zf lf zcf, .slice zd ld zcd, .slice (some ⟨V, 0, none⟩) ls zcs] 25))
  have HF3 := hide' (own_below HO2.out (below_al w2 (.cells #[.int .i64 n, .slice zf lf zcf, .slice zd ld zcd, .slice (some ⟨V, 0, none⟩) ls zcs] 25)) (Nat.le_refl _))
  have HR3 := hide' (own_below HO3.out (below_al w2 (.cells #[.int .i64 n, .slice zf lf zcf, .slice zd ld zcd, .slice (some ⟨V, 0, none⟩) ls zcs] 25)) (Nat.le_refl _))
  have HV3 := hide' (own_below HO4.out (below_al w2 (.cells #[.int .i64 n, .slice zf lf zcf, .slice zd ld zcd, .slice (some ⟨V, 0, none⟩) ls zcs] 25)) (Nat.le_refl _))
  obtain ⟨w3, hw3⟩ : ∃ x, x = w2.alloc (.cells #[.int .i64 n, .slice zf lf zcf, .slice zd ld zcd, .slice (some ⟨V, 0, none⟩) ls zcs] 25) := ⟨_, rfl⟩
  obtain ⟨Z, hZZ⟩ : ∃ x, x = w2.heap.size := ⟨_, rfl⟩
  rw [← hw3] at HZ3 HB3 HF3 HR3 HV3 ⊢
  rw [← hZZ] at HZ3 ⊢
  clear hw3 hZZ HB2 HO2 HO3 HO4
  have z3 : w3.cell? ⟨Z, 3, none⟩ = some (.slice (some ⟨V, 0, none⟩) ls zcs) := (cells_at HZ3.out 3).trans rfl
  obtain ⟨cv3, fv3⟩ := own_cell HV3.out (j := k * 4 + 3) (u := .bool (y.dev k).shut) ((dev_cell HDG.out (by decide)).trans rfl)
  go_upto_region 3 with fail
  have hVs : w.heap.size ≤ V := own_at HV3.out V rfl
  obtain ⟨curV, hcurV⟩ : ∃ cur, w3.heap[V]? = some (.cells cur 45 (0, 0)) := by
    rcases HV3.out.2 with ⟨h1, _⟩ | ⟨g, cap, cur, h1, _, h2, _⟩
    · cases h1
    · cases h1; exact ⟨_, h2⟩
  have hke : KeepE 45 w3 (w3.setCell ⟨V, k * 4 + 3, none⟩ (.bool false)) := keep_set hcurV _ _
  have HB4 : Hid (Below w.heap.size w (w3.setCell ⟨V, k * 4 + 3, none⟩ (.bool false))) := HB3.out.setCell (p := ⟨V, k * 4 + 3, none⟩) hVs _
  have HZ4 := hide' ((hke Z _ _ _ HZ3.out (by decide)).trans HZ3.out)
  have HF4 := hide' (own_keep HF3.out hke (by decide))
  have HR4 := hide' (own_keep HR3.out hke (by decide))
  have HV4 : Hid ((w3.setCell ⟨V, k * 4 + 3, none⟩ (.bool false)).ownsRow w.heap.size 45 4 (.slice (some ⟨V, 0, none⟩) ls zcs) ls ((y.opened k).devs.flatMap DevM.cells)) := by
    have h1 := own_dev_set HV3.out k false hk
    rw [← HOD.out] at h1
    exact h1
  obtain ⟨w4, hw4⟩ : ∃ x, x = w3.setCell ⟨V, k * 4 + 3, none⟩ (.bool false) := ⟨_, rfl⟩
  rw [← hw4] at HB4 HZ4 HF4 HR4 HV4 ⊢
  clear hw4 hke hcurV hVs cv3 fv3 z3 HB3 HZ3 HF3 HR3 HV3
  have z3 : w4.cell? ⟨Z, 3, none⟩ = some (.slice (some ⟨V, 0, none⟩) ls zcs) := (cells_at HZ4.out 3).trans rfl
  have hok : (y.opened k).devs[k]? = some { y.dev k with shut := false } := by
    rw [HOD.out, List.getElem?_modify_eq, HDG.out]; rfl
  have HDC : Hid (({ y.dev k with shut := false } : DevM).cells = [.int .i64 kd, .int .i64 a, .int .i64 b, .bool false]) := by
    have h1 := HDV.out
    simp only [DevM.cells, List.cons.injEq] at h1 ⊢
    exact ⟨h1.1, h1.2.1, h1.2.2.1, trivial⟩
  have v0 := (own_cell HV4.out (j := k * 4 + 0) (u := .int .i64 kd) ((dev_cell hok (by decide)).trans (by rw [HDC.out]; rfl))).1
  have v1 := (own_cell HV4.out (j := k * 4 + 1) (u := .int .i64 a) ((dev_cell hok (by decide)).trans (by rw [HDC.out]; rfl))).1
  have v2 := (own_cell HV4.out (j := k * 4 + 2) (u := .int .i64 b) ((dev_cell hok (by decide)).trans (by rw [HDC.out]; rfl))).1
  have v3 := (own_cell HV4.out (j := k * 4 + 3) (u := .bool false) ((dev_cell hok (by decide)).trans (by rw [HDC.out]; rfl))).1
  rw [Nat.add_zero] at v0
  have HYA : Hid (YardAt w4 zf zd (some ⟨V, 0, none⟩) zcf zcd zcs (y.opened k)) := by
    obtain ⟨e1, e2, e3⟩ := opened_same y k
    refine ⟨?_, ?_, ?_⟩
    · rw [e2, ← HLF.out]; exact rowAt_of_own HF4.out
    · rw [e3, ← HLD.out]; exact rowAt_of_own HR4.out
    · have e4 : (y.opened k).devs.length = ls := by rw [HOD.out, List.length_modify]; exact HLS.out.symm
      rw [e4]; exact rowAt_of_own HV4.out
  clear hok HF4 HR4 HV4
  go_upto_region 4 with fail
  have HL5 : Hid (LB w (w4.alloc (.cells #[.int .i64 kd, .int .i64 a, .int .i64 b, .bool false] 45)) (y.opened k) Z w4.heap.size V n lf ld ls zcf zcd zcs zf zd kd a b) := ⟨(alloc_old _ _ (Array.getElem?_eq_some_iff.1 HZ4.out).1).trans HZ4.out, alloc_new _ _, HYA.out.below (below_al _ _) (Nat.le_refl _), HB4.out.alloc HB4.out.size _⟩
  obtain ⟨w5, hw5⟩ : ∃ x, x = w4.alloc (.cells #[.int .i64 kd, .int .i64 a, .int .i64 b, .bool false] 45) := ⟨_, rfl⟩
  obtain ⟨Dv, hDD⟩ : ∃ x, x = w4.heap.size := ⟨_, rfl⟩
  rw [← hw5] at HL5 ⊢
  rw [← hDD] at HL5 ⊢
  clear hw5 hDD HYA HB4 HZ4 v0 v1 v2 v3 z3
  have HMO : Hid (MayY (y.opened k)) := HM.out.opened k
  have HON : Hid ((y.opened k).n = n) := by show _ = _; rw [opened_n]; exact HNN.out.symm
  have HPO : Hid ((y.opened k).points = (n : Int)) := by show _ = _; rw [(opened_same y k).1, HNN.out]; exact HM.out.n_le.2.2
  have HTS : Hid (∀ (x : Nat) (w' : World) (v : Value), x < n → RowAt w' v 1 1 (ints [(x : Int)]) → Calls Try.prog 54 #[.agg #[.int .i64 n, .slice zf lf zcf, .slice zd ld zcd, .slice (some ⟨V, 0, none⟩) ls zcs], v] w' fun e w2 => ∃ T, e = .returned (.slice (some ⟨T, 0, none⟩) n n) ∧ w2.ownsRow w'.heap.size 4 1 (.slice (some ⟨T, 0, none⟩) n n) n ((theseL n [(x : Int)]).map Value.bool) ∧ Below w'.heap.size w' w2) := fun x w' v hx hr => these_any [(x : Int)] n _ _ _ _ _ _ _ _ _ v w' hr (fun q hq => by simp at hq; rw [hq]; omega) (by rw [HNN.out]; omega) (by simp)
  have HTG : Hid (∀ (x : Nat) (w' : World) (v : Value), x < n → YardAt w' zf zd (some ⟨V, 0, none⟩) zcf zcd zcs (y.opened k) → RowAt w' v n 1 ((theseL n [(x : Int)]).map Value.bool) → Calls Try.prog 53 #[.agg #[.int .i64 n, .slice zf lf zcf, .slice zd ld zcd, .slice (some ⟨V, 0, none⟩) ls zcs], v] w' fun e w2 => ∃ T c, e = .returned (.slice (some ⟨T, 0, none⟩) n c) ∧ w2.ownsRow w'.heap.size 4 1 (.slice (some ⟨T, 0, none⟩) n c) n ((withL (y.opened k).grp n [(x : Int)]).map Value.bool) ∧ Below w'.heap.size w' w2) := fun x w' v hx hya hr => by
    have h1 := together_any (y.opened k) HMO.out (theseL n [(x : Int)]) zf zd (some ⟨V, 0, none⟩) zcf zcd zcs v w' hya (by rw [HON.out]; exact hr) (by rw [HON.out]; exact theseL_len _ _)
    have e5 : (y.opened k).fed.length = lf := by rw [(opened_same y k).2.1]; exact HLF.out.symm
    have e6 : (y.opened k).drawn.length = ld := by rw [(opened_same y k).2.2]; exact HLD.out.symm
    have e7 : (y.opened k).devs.length = ls := by rw [HOD.out, List.length_modify]; exact HLS.out.symm
    rw [HON.out, HPO.out, e5, e6, e7, one_with (by have := HMO.out.ends; rw [HON.out] at this; exact this) hx] at h1
    rw [YardM.grp, HON.out]
    exact h1
  have hna : a < n := by rw [HNN.out]; exact ha
  have hnb : b < n := by rw [HNN.out]; exact hb
  clear ha hb
  have p0 : w5.cell? ⟨Z, 0, none⟩ = some (.int .i64 n) := (cells_at HL5.out.hZ 0).trans rfl
  have p1 : w5.cell? ⟨Z, 1, none⟩ = some (.slice zf lf zcf) := (cells_at HL5.out.hZ 1).trans rfl
  have p2 : w5.cell? ⟨Z, 2, none⟩ = some (.slice zd ld zcd) := (cells_at HL5.out.hZ 2).trans rfl
  have p3 : w5.cell? ⟨Z, 3, none⟩ = some (.slice (some ⟨V, 0, none⟩) ls zcs) := (cells_at HL5.out.hZ 3).trans rfl
  have p4 : w5.cell? ⟨Dv, 1, none⟩ = some (.int .i64 a) := (cells_at HL5.out.hD 1).trans rfl
  go_wp2_with fail
  refine wp_region_tail (fun W => W.cell? ⟨Z, 0, none⟩ = some (.int .i64 n) ∧ W.cell? ⟨Z, 1, none⟩ = some (.slice zf lf zcf) ∧ W.cell? ⟨Z, 2, none⟩ = some (.slice zd ld zcd) ∧ W.cell? ⟨Z, 3, none⟩ = some (.slice (some ⟨V, 0, none⟩) ls zcs) ∧ W.cell? ⟨Dv, 1, none⟩ = some (.int .i64 a)) 7 (by kernel_rfl) ?_
  refine wpAnyD_takeAt 0 (some 23) (v := ?_) rfl (by kernel_rfl) (by kernel_rfl) (by kernel_rfl) (by kernel_rfl) (by kernel_rfl) (fun _ _ _ h => h) (by exact ⟨p0, p1, p2, p3, p4⟩) (fun o hop => ?_) ?_
  rotate_left
  · injection hop with hop
    subst hop
    refine ⟨rfl, fun W hW => ?_⟩
    obtain ⟨s0, s1, s2, s3, s4⟩ := hW
    go_simp
    first
    | rfl
    | rw [if_neg (by omega)]
  try simp only [Act.put, List.setIfInBounds_toArray, List.set_cons_zero, List.set_cons_succ]
  refine wpAnyD_takeAt 1 (some 24) (v := ?_) rfl (by kernel_rfl) (by kernel_rfl) (by kernel_rfl) (by kernel_rfl) (by kernel_rfl) (fun _ _ _ h => h) (by exact ⟨p0, p1, p2, p3, p4⟩) (fun o hop => ?_) ?_
  rotate_left
  · injection hop with hop
    subst hop
    refine ⟨rfl, fun W hW => ?_⟩
    obtain ⟨s0, s1, s2, s3, s4⟩ := hW
    go_simp
    first
    | rfl
    | rw [if_neg (by omega)]
  try simp only [Act.put, List.setIfInBounds_toArray, List.set_cons_zero, List.set_cons_succ]
  refine wpAnyD_takeAt 2 (some 25) (v := ?_) rfl (by kernel_rfl) (by kernel_rfl) (by kernel_rfl) (by kernel_rfl) (by kernel_rfl) (fun _ _ _ h => h) (by exact ⟨p0, p1, p2, p3, p4⟩) (fun o hop => ?_) ?_
  rotate_left
  · injection hop with hop
    subst hop
    refine ⟨rfl, fun W hW => ?_⟩
    obtain ⟨s0, s1, s2, s3, s4⟩ := hW
    go_simp
    first
    | rfl
    | rw [if_neg (by omega)]
  try simp only [Act.put, List.setIfInBounds_toArray, List.set_cons_zero, List.set_cons_succ]
  refine wpAnyD_takeAt 3 (some 26) (v := ?_) rfl (by kernel_rfl) (by kernel_rfl) (by kernel_rfl) (by kernel_rfl) (by kernel_rfl) (fun _ _ _ h => h) (by exact ⟨p0, p1, p2, p3, p4⟩) (fun o hop => ?_) ?_
  rotate_left
  · injection hop with hop
    subst hop
    refine ⟨rfl, fun W hW => ?_⟩
    obtain ⟨s0, s1, s2, s3, s4⟩ := hW
    go_simp
    first
    | rfl
    | rw [if_neg (by omega)]
  try simp only [Act.put, List.setIfInBounds_toArray, List.set_cons_zero, List.set_cons_succ]
  refine wpAnyT_one (i := 4) (by kernel_rfl) rfl rfl (fun K' hK => ?_)
  go_simp
  have HLa6 := hide' ((HL5.out.more ((Below.refl _ w5).drew)).more (below_al w5.drew (.cells #[.int .i64 a] 3)))
  have HRa6 := hide' (alloc_new w5.drew (.cells #[.int .i64 a] 3))
  have q0 : (w5.drew.alloc (.cells #[.int .i64 a] 3)).cell? ⟨Z, 0, none⟩ = some (.int .i64 n) := (cells_at HLa6.out.hZ 0).trans rfl
  have q1 : (w5.drew.alloc (.cells #[.int .i64 a] 3)).cell? ⟨Z, 1, none⟩ = some (.slice zf lf zcf) := (cells_at HLa6.out.hZ 1).trans rfl
  have q2 : (w5.drew.alloc (.cells #[.int .i64 a] 3)).cell? ⟨Z, 2, none⟩ = some (.slice zd ld zcd) := (cells_at HLa6.out.hZ 2).trans rfl
  have q3 : (w5.drew.alloc (.cells #[.int .i64 a] 3)).cell? ⟨Z, 3, none⟩ = some (.slice (some ⟨V, 0, none⟩) ls zcs) := (cells_at HLa6.out.hZ 3).trans rfl
  have q4 : (w5.drew.alloc (.cells #[.int .i64 a] 3)).cell? ⟨Dv, 1, none⟩ = some (.int .i64 a) := (cells_at HLa6.out.hD 1).trans rfl
  refine hK.out _ _ (fun _ => by exact ⟨q0, q1, q2, q3, q4⟩) ?_
  clear hK K'
  refine wpAnyT_one (i := 5) (by kernel_rfl) rfl rfl (fun K' hK => ?_)
  go_simp
  go_at_call 54
  refine (HTS.out a (w5.drew.alloc (.cells #[.int .i64 a] 3)) _ hna (rowAt_ints HRa6.out rfl)).mono ?_
  rintro e u6 ⟨T6, rfl, hown, hb⟩
  have HLb6 := hide' (HLa6.out.more hb)
  have HTb6 := hide' (rowAt_of_own hown)
  have r0 : u6.cell? ⟨Z, 0, none⟩ = some (.int .i64 n) := (cells_at HLb6.out.hZ 0).trans rfl
  have r1 : u6.cell? ⟨Z, 1, none⟩ = some (.slice zf lf zcf) := (cells_at HLb6.out.hZ 1).trans rfl
  have r2 : u6.cell? ⟨Z, 2, none⟩ = some (.slice zd ld zcd) := (cells_at HLb6.out.hZ 2).trans rfl
  have r3 : u6.cell? ⟨Z, 3, none⟩ = some (.slice (some ⟨V, 0, none⟩) ls zcs) := (cells_at HLb6.out.hZ 3).trans rfl
  have r4 : u6.cell? ⟨Dv, 1, none⟩ = some (.int .i64 a) := (cells_at HLb6.out.hD 1).trans rfl
  refine hK.out _ _ (fun _ => by exact ⟨r0, r1, r2, r3, r4⟩) ?_
  clear hK K' hown hb p0 q0 p1 q1 p2 q2 p3 q3 p4 q4
  refine wpAnyT_one (i := 6) (by kernel_rfl) rfl rfl (fun K' hK => ?_)
  go_simp
  go_at_call 53
  refine (HTG.out a u6 _ hna HLb6.out.ya HTb6.out).mono ?_
  rintro e x6 ⟨S6, c6, rfl, hown, hb⟩
  have HLc6 := hide' (HLb6.out.more hb)
  have HOc6 := hide' hown
  have g0 : x6.cell? ⟨Z, 0, none⟩ = some (.int .i64 n) := (cells_at HLc6.out.hZ 0).trans rfl
  have g1 : x6.cell? ⟨Z, 1, none⟩ = some (.slice zf lf zcf) := (cells_at HLc6.out.hZ 1).trans rfl
  have g2 : x6.cell? ⟨Z, 2, none⟩ = some (.slice zd ld zcd) := (cells_at HLc6.out.hZ 2).trans rfl
  have g3 : x6.cell? ⟨Z, 3, none⟩ = some (.slice (some ⟨V, 0, none⟩) ls zcs) := (cells_at HLc6.out.hZ 3).trans rfl
  have g4 : x6.cell? ⟨Dv, 1, none⟩ = some (.int .i64 a) := (cells_at HLc6.out.hD 1).trans rfl
  refine hK.out _ _ (fun _ => by exact ⟨g0, g1, g2, g3, g4⟩) ?_
  clear hK K' hown hb r0 r1 r2 r3 r4
  refine wpAnyT_one (i := 7) (by kernel_rfl) rfl rfl (fun K' hK => ?_)
  go_simp
  refine hK.out _ _ (fun h => absurd rfl h) ?_
  clear hK K' g0 g1 g2 g3 g4
  refine wpAnyT_done (by kernel_rfl) ?_ _
  go_upto_region 5 with fail
  have p0 : x6.cell? ⟨Z, 0, none⟩ = some (.int .i64 n) := (cells_at HLc6.out.hZ 0).trans rfl
  have p1 : x6.cell? ⟨Z, 1, none⟩ = some (.slice zf lf zcf) := (cells_at HLc6.out.hZ 1).trans rfl
  have p2 : x6.cell? ⟨Z, 2, none⟩ = some (.slice zd ld zcd) := (cells_at HLc6.out.hZ 2).trans rfl
  have p3 : x6.cell? ⟨Z, 3, none⟩ = some (.slice (some ⟨V, 0, none⟩) ls zcs) := (cells_at HLc6.out.hZ 3).trans rfl
  have p4 : x6.cell? ⟨Dv, 2, none⟩ = some (.int .i64 b) := (cells_at HLc6.out.hD 2).trans rfl
  go_wp2_with fail
  refine wp_region_tail (fun W => W.cell? ⟨Z, 0, none⟩ = some (.int .i64 n) ∧ W.cell? ⟨Z, 1, none⟩ = some (.slice zf lf zcf) ∧ W.cell? ⟨Z, 2, none⟩ = some (.slice zd ld zcd) ∧ W.cell? ⟨Z, 3, none⟩ = some (.slice (some ⟨V, 0, none⟩) ls zcs) ∧ W.cell? ⟨Dv, 2, none⟩ = some (.int .i64 b)) 7 (by kernel_rfl) ?_
  refine wpAnyD_takeAt 0 (some 30) (v := ?_) rfl (by kernel_rfl) (by kernel_rfl) (by kernel_rfl) (by kernel_rfl) (by kernel_rfl) (fun _ _ _ h => h) (by exact ⟨p0, p1, p2, p3, p4⟩) (fun o hop => ?_) ?_
  rotate_left
  · injection hop with hop
    subst hop
    refine ⟨rfl, fun W hW => ?_⟩
    obtain ⟨s0, s1, s2, s3, s4⟩ := hW
    go_simp
    first
    | rfl
    | rw [if_neg (by omega)]
  try simp only [Act.put, List.setIfInBounds_toArray, List.set_cons_zero, List.set_cons_succ]
  refine wpAnyD_takeAt 1 (some 31) (v := ?_) rfl (by kernel_rfl) (by kernel_rfl) (by kernel_rfl) (by kernel_rfl) (by kernel_rfl) (fun _ _ _ h => h) (by exact ⟨p0, p1, p2, p3, p4⟩) (fun o hop => ?_) ?_
  rotate_left
  · injection hop with hop
    subst hop
    refine ⟨rfl, fun W hW => ?_⟩
    obtain ⟨s0, s1, s2, s3, s4⟩ := hW
    go_simp
    first
    | rfl
    | rw [if_neg (by omega)]
  try simp only [Act.put, List.setIfInBounds_toArray, List.set_cons_zero, List.set_cons_succ]
  refine wpAnyD_takeAt 2 (some 32) (v := ?_) rfl (by kernel_rfl) (by kernel_rfl) (by kernel_rfl) (by kernel_rfl) (by kernel_rfl) (fun _ _ _ h => h) (by exact ⟨p0, p1, p2, p3, p4⟩) (fun o hop => ?_) ?_
  rotate_left
  · injection hop with hop
    subst hop
    refine ⟨rfl, fun W hW => ?_⟩
    obtain ⟨s0, s1, s2, s3, s4⟩ := hW
    go_simp
    first
    | rfl
    | rw [if_neg (by omega)]
  try simp only [Act.put, List.setIfInBounds_toArray, List.set_cons_zero, List.set_cons_succ]
  refine wpAnyD_takeAt 3 (some 33) (v := ?_) rfl (by kernel_rfl) (by kernel_rfl) (by kernel_rfl) (by kernel_rfl) (by kernel_rfl) (fun _ _ _ h => h) (by exact ⟨p0, p1, p2, p3, p4⟩) (fun o hop => ?_) ?_
  rotate_left
  · injection hop with hop
    subst hop
    refine ⟨rfl, fun W hW => ?_⟩
    obtain ⟨s0, s1, s2, s3, s4⟩ := hW
    go_simp
    first
    | rfl
    | rw [if_neg (by omega)]
  try simp only [Act.put, List.setIfInBounds_toArray, List.set_cons_zero, List.set_cons_succ]
  refine wpAnyT_one (i := 4) (by kernel_rfl) rfl rfl (fun K' hK => ?_)
  go_simp
  have HLa7 := hide' ((HLc6.out.more ((Below.refl _ x6).drew)).more (below_al x6.drew (.cells #[.int .i64 b] 3)))
  have HRa7 := hide' (alloc_new x6.drew (.cells #[.int .i64 b] 3))
  have q0 : (x6.drew.alloc (.cells #[.int .i64 b] 3)).cell? ⟨Z, 0, none⟩ = some (.int .i64 n) := (cells_at HLa7.out.hZ 0).trans rfl
  have q1 : (x6.drew.alloc (.cells #[.int .i64 b] 3)).cell? ⟨Z, 1, none⟩ = some (.slice zf lf zcf) := (cells_at HLa7.out.hZ 1).trans rfl
  have q2 : (x6.drew.alloc (.cells #[.int .i64 b] 3)).cell? ⟨Z, 2, none⟩ = some (.slice zd ld zcd) := (cells_at HLa7.out.hZ 2).trans rfl
  have q3 : (x6.drew.alloc (.cells #[.int .i64 b] 3)).cell? ⟨Z, 3, none⟩ = some (.slice (some ⟨V, 0, none⟩) ls zcs) := (cells_at HLa7.out.hZ 3).trans rfl
  have q4 : (x6.drew.alloc (.cells #[.int .i64 b] 3)).cell? ⟨Dv, 2, none⟩ = some (.int .i64 b) := (cells_at HLa7.out.hD 2).trans rfl
  refine hK.out _ _ (fun _ => by exact ⟨q0, q1, q2, q3, q4⟩) ?_
  clear hK K'
  refine wpAnyT_one (i := 5) (by kernel_rfl) rfl rfl (fun K' hK => ?_)
  go_simp
  go_at_call 54
  refine (HTS.out b (x6.drew.alloc (.cells #[.int .i64 b] 3)) _ hnb (rowAt_ints HRa7.out rfl)).mono ?_
  rintro e u7 ⟨T7, rfl, hown, hb⟩
  have HBu7 := hide' hb
  have HLb7 := hide' (HLa7.out.more hb)
  have HTb7 := hide' (rowAt_of_own hown)
  have r0 : u7.cell? ⟨Z, 0, none⟩ = some (.int .i64 n) := (cells_at HLb7.out.hZ 0).trans rfl
  have r1 : u7.cell? ⟨Z, 1, none⟩ = some (.slice zf lf zcf) := (cells_at HLb7.out.hZ 1).trans rfl
  have r2 : u7.cell? ⟨Z, 2, none⟩ = some (.slice zd ld zcd) := (cells_at HLb7.out.hZ 2).trans rfl
  have r3 : u7.cell? ⟨Z, 3, none⟩ = some (.slice (some ⟨V, 0, none⟩) ls zcs) := (cells_at HLb7.out.hZ 3).trans rfl
  have r4 : u7.cell? ⟨Dv, 2, none⟩ = some (.int .i64 b) := (cells_at HLb7.out.hD 2).trans rfl
  refine hK.out _ _ (fun _ => by exact ⟨r0, r1, r2, r3, r4⟩) ?_
  clear hK K' hown hb p0 q0 p1 q1 p2 q2 p3 q3 p4 q4
  refine wpAnyT_one (i := 6) (by kernel_rfl) rfl rfl (fun K' hK => ?_)
  go_simp
  go_at_call 53
  refine (HTG.out b u7 _ hnb HLb7.out.ya HTb7.out).mono ?_
  rintro e x7 ⟨S7, c7, rfl, hown, hb⟩
  have HBx7 := hide' hb
  have HLc7 := hide' (HLb7.out.more hb)
  have HOc7 := hide' hown
  have g0 : x7.cell? ⟨Z, 0, none⟩ = some (.int .i64 n) := (cells_at HLc7.out.hZ 0).trans rfl
  have g1 : x7.cell? ⟨Z, 1, none⟩ = some (.slice zf lf zcf) := (cells_at HLc7.out.hZ 1).trans rfl
  have g2 : x7.cell? ⟨Z, 2, none⟩ = some (.slice zd ld zcd) := (cells_at HLc7.out.hZ 2).trans rfl
  have g3 : x7.cell? ⟨Z, 3, none⟩ = some (.slice (some ⟨V, 0, none⟩) ls zcs) := (cells_at HLc7.out.hZ 3).trans rfl
  have g4 : x7.cell? ⟨Dv, 2, none⟩ = some (.int .i64 b) := (cells_at HLc7.out.hD 2).trans rfl
  refine hK.out _ _ (fun _ => by exact ⟨g0, g1, g2, g3, g4⟩) ?_
  clear hK K' hown hb r0 r1 r2 r3 r4
  refine wpAnyT_one (i := 7) (by kernel_rfl) rfl rfl (fun K' hK => ?_)
  go_simp
  refine hK.out _ _ (fun h => absurd rfl h) ?_
  clear hK K' g0 g1 g2 g3 g4
  refine wpAnyT_done (by kernel_rfl) ?_ _
  have HOa := hide' (own_below (own_below (own_below (own_below HOc6.out (Below.refl _ x6).drew (Nat.le_refl _)) (below_al x6.drew (.cells #[.int .i64 b] 3)) (Nat.le_refl _)) HBu7.out (Nat.le_refl _)) HBx7.out (Nat.le_refl _))
  have HRa : Hid (∀ m, RowAt (x7.drewN m) (.slice (some ⟨S6, 0, none⟩) n c6) n 1 ((withL (y.opened k).grp n [(a : Int)]).map Value.bool)) := fun m => (rowAt_of_own HOa.out).below (below_drewN (Below.refl _ x7) m) (Nat.le_refl _)
  have HRb : Hid (∀ m, RowAt (x7.drewN m) (.slice (some ⟨S7, 0, none⟩) n c7) n 1 ((withL (y.opened k).grp n [(b : Int)]).map Value.bool)) := fun m => (rowAt_of_own HOc7.out).below (below_drewN (Below.refl _ x7) m) (Nat.le_refl _)
  have HLm : Hid (∀ m, LB w (x7.drewN m) (y.opened k) Z Dv V n lf ld ls zcf zcd zcs zf zd kd a b) := fun m => HLc7.out.more (below_drewN (Below.refl _ x7) m)
  have HSI : Hid (∀ m (x : Nat) (T c : Nat), x < n → RowAt (x7.drewN m) (.slice (some ⟨T, 0, none⟩) n c) n 1 ((withL (y.opened k).grp n [(x : Int)]).map Value.bool) → (Calls Try.prog 55 #[.slice (some ⟨T, 0, none⟩) n c, .slice zf lf zcf] (x7.drewN m) fun e w' => e = .returned (.bool ((y.opened k).live.getD x false)) ∧ w' = x7.drewN m) ∧ (Calls Try.prog 55 #[.slice (some ⟨T, 0, none⟩) n c, .slice zd ld zcd] (x7.drewN m) fun e w' => e = .returned (.bool ((y.opened k).load.getD x false)) ∧ w' = x7.drewN m)) := fun m x T c hx hr => by
    have e5 : (y.opened k).fed.length = lf := by rw [(opened_same y k).2.1]; exact HLF.out.symm
    have e6 : (y.opened k).drawn.length = ld := by rw [(opened_same y k).2.2]; exact HLD.out.symm
    have hf2 : ∀ q ∈ (y.opened k).fed, 0 ≤ q ∧ q < (n : Int) := fun q hq => by have h9 := HMO.out.f.at hq; rw [HPO.out] at h9; exact h9
    have hd2 : ∀ q ∈ (y.opened k).drawn, 0 ≤ q ∧ q < (n : Int) := fun q hq => by have h9 := HMO.out.w.at hq; rw [HPO.out] at h9; exact h9
    have h1 := someIn_any (withL (y.opened k).grp n [(x : Int)]) (y.opened k).fed n c T _ (x7.drewN m) hr (HLm.out m).ya.f hf2 (by rw [e5, HLF.out]; omega)
    have h2 := someIn_any (withL (y.opened k).grp n [(x : Int)]) (y.opened k).drawn n c T _ (x7.drewN m) hr (HLm.out m).ya.d hd2 (by rw [e6, HLD.out]; omega)
    rw [one_some hx hf2, e5] at h1
    rw [one_some hx hd2, e6] at h2
    rw [YardM.live, YardM.load, HON.out]
    exact ⟨h1, h2⟩
  have ab := row_bit (HRa.out 0) hnb
  rw [one_get hnb] at ab
  have ab2 : x7.cell? ⟨S6, b, none⟩ = some (.bool (sameG (y.opened k) a b)) := ab
  have gd2 : x7.cell? ⟨Dv, 2, none⟩ = some (.int .i64 b) := (cells_at HLc7.out.hD 2).trans rfl
  have g1 : x7.cell? ⟨Z, 1, none⟩ = some (.slice zf lf zcf) := (cells_at HLc7.out.hZ 1).trans rfl
  have HBM : Hid (∀ m, Below w.heap.size w (x7.drewN m)) := fun m => (HLm.out m).bel
  obtain ⟨sg, hsg⟩ : ∃ x, x = sameG (y.opened k) a b := ⟨_, rfl⟩
  rw [← hsg] at ab2 HE
  clear ab hsg HOa HTS HTG
  cases sg with
  | true =>
    go_wp2
    go_ret
    exact ⟨by rw [HE.out]; rfl, HLc7.out.bel⟩
  | false =>
    have HA1 : Hid (∀ m, Calls Try.prog 55 #[.slice (some ⟨S6, 0, none⟩) n c6, .slice zf lf zcf] (x7.drewN m) fun e w' => e = .returned (.bool ((y.opened k).live.getD a false)) ∧ w' = x7.drewN m) := fun m => (HSI.out m a S6 c6 hna (HRa.out m)).1
    have HA2 : Hid (∀ m, Calls Try.prog 55 #[.slice (some ⟨S6, 0, none⟩) n c6, .slice zd ld zcd] (x7.drewN m) fun e w' => e = .returned (.bool ((y.opened k).load.getD a false)) ∧ w' = x7.drewN m) := fun m => (HSI.out m a S6 c6 hna (HRa.out m)).2
    have HA3 : Hid (∀ m, Calls Try.prog 55 #[.slice (some ⟨S7, 0, none⟩) n c7, .slice zf lf zcf] (x7.drewN m) fun e w' => e = .returned (.bool ((y.opened k).live.getD b false)) ∧ w' = x7.drewN m) := fun m => (HSI.out m b S7 c7 hnb (HRb.out m)).1
    have HA4 : Hid (∀ m, Calls Try.prog 55 #[.slice (some ⟨S7, 0, none⟩) n c7, .slice zd ld zcd] (x7.drewN m) fun e w' => e = .returned (.bool ((y.opened k).load.getD b false)) ∧ w' = x7.drewN m) := fun m => (HSI.out m b S7 c7 hnb (HRb.out m)).2
    have HON2 : Hid (ontoB (y.opened k) a b = ((y.opened k).live.getD a false && ((y.opened k).live.getD b false || (y.opened k).load.getD b false)) ∧ ontoB (y.opened k) b a = ((y.opened k).live.getD b false && ((y.opened k).live.getD a false || (y.opened k).load.getD a false))) := ⟨rfl, rfl⟩
    obtain ⟨xa, hxa⟩ : ∃ x, x = (y.opened k).live.getD a false := ⟨_, rfl⟩
    obtain ⟨xb, hxb⟩ : ∃ x, x = (y.opened k).live.getD b false := ⟨_, rfl⟩
    obtain ⟨da, hda⟩ : ∃ x, x = (y.opened k).load.getD a false := ⟨_, rfl⟩
    obtain ⟨db, hdb⟩ : ∃ x, x = (y.opened k).load.getD b false := ⟨_, rfl⟩
    rw [← hxa] at HA1 HON2
    rw [← hda] at HA2 HON2
    rw [← hxb] at HA3 HON2
    rw [← hdb] at HA4 HON2
    rw [HON2.out.1, HON2.out.2] at HE
    clear hxa hxb hda hdb HSI HON2 HRa HRb
    go_wp2_with fail
    go_quiet ((go_at_call 55; first | (with_reducible exact Calls.quiet_of_same (HA1.out _)) | (with_reducible exact Calls.quiet_of_same (HA3.out _))))
    have g2 : (x7.drewN nq).cell? ⟨Z, 2, none⟩ = some (.slice zd ld zcd) := (cells_at (HLm.out nq).hZ 2).trans rfl
    have HA2n := hide' (HA2.out nq)
    have HA4n := hide' (HA4.out nq)
    have HBN := hide' (HBM.out nq)
    obtain ⟨w9, hw9⟩ : ∃ x, x = x7.drewN nq := ⟨_, rfl⟩
    rw [← hw9] at g2 HA2n HA4n HBN ⊢
    clear hw9 HA1 HA2 HA3 HA4 ab2 gd2 g1 HLm HBM HLc7
    cases xa <;> cases xb <;> cases da <;> cases db
    all_goals
      go_wp2_with (go_at_call 55; (first | (with_reducible refine HA4n.out.mono ?_) | (with_reducible refine HA2n.out.mono ?_)); rintro e w' ⟨rfl, hw'⟩; obtain rfl := hw'.symm)
    all_goals
      go_ret
      exact ⟨by rw [HE.out]; rfl, HBN.out⟩
end Go.Proofs.Ytcnoipcpifackah
