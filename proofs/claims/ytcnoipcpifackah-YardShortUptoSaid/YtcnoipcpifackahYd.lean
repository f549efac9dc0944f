/- Whether a Blade would part or join what flows, in the program. -/
import Derived.Test.YtcnoipcpifackahYc
namespace Go.Proofs.Ytcnoipcpifackah
open Go.RowKit Go.Shelf

/-- The yard with the device open lies in a block of its own. -/
structure OpenAt (w wr : World) (o : YardM) (q : Places) (O : Nat) : Prop where
  hO : wr.heap[O]? = some (.cells (workC o q) 50 (0, 0))
  wk : WorkAt wr o q
  bel : Below w.heap.size w wr
theorem set8 (b0 b1 b2 b3 b4 b5 b6 b7 x0 x1 x2 x3 x4 x5 x6 x7 : Value) : (((((((#[b0, b1, b2, b3, b4, b5, b6, b7].setIfInBounds 0 x0).setIfInBounds 1 x1).setIfInBounds 2 x2).setIfInBounds 3 x3).setIfInBounds 4 x4).setIfInBounds 5 x5).setIfInBounds 6 x6).setIfInBounds 7 x7 = #[x0, x1, x2, x3, x4, x5, x6, x7] := by simp only [List.setIfInBounds_toArray, List.set_cons_zero, List.set_cons_succ]
/-- What follows once the device is open. -/
def sameG (o : YardM) (a b : Nat) : Bool := o.grp.getD a 0 == o.grp.getD b 0
set_option maxRecDepth 100000 in
set_option maxHeartbeats 800000 in
theorem load_any (y : YardM) (p : Places) (k B V K : Nat) (w : World) (hc : Caught w y p k B V K) (hk2 : (y.dev k).kind ≠ 3) : Calls Try.prog 48 #[.pointer (some ⟨B, 0, none⟩), .pointer (some ⟨V, 0, none⟩), .pointer (some ⟨K, 0, none⟩)] w fun e w' => e = .returned (.int .i64 (loadE y k)) ∧ Below w.heap.size w w' := by
  have HC := hide' hc
  have HE : Hid (loadE y k = if (!(sameG (y.opened k) (y.dev k).a.toNat (y.dev k).b.toNat) && (ontoB (y.opened k) (y.dev k).a.toNat (y.dev k).b.toNat || ontoB (y.opened k) (y.dev k).b.toNat (y.dev k).a.toNat)) = true then 13 else 0) := rfl
  obtain ⟨a, hae, ha⟩ := dev_a hc.may hc.lt
  obtain ⟨b, hbe, hb⟩ := dev_b hc.may hc.lt hk2
  have v3 : w.cell? ⟨V, 3, none⟩ = some (.bool (y.dev k).shut) := (cells_at hc.hV 3).trans rfl
  have HVC : Hid (∀ w', Below w.heap.size w w' → w'.cell? ⟨V, 1, none⟩ = some (.int .i64 a) ∧ w'.cell? ⟨V, 2, none⟩ = some (.int .i64 b)) := fun w' hb => by
    have h1 := (HC.out.below hb).hV
    exact ⟨by rw [← hae]; exact (cells_at h1 1).trans rfl, by rw [← hbe]; exact (cells_at h1 2).trans rfl⟩
  have k0 : w.cell? ⟨K, 0, none⟩ = some (.int .i64 k) := (cells_at hc.hK 0).trans rfl
  have HT : Hid (∀ o', Calls Try.prog 32 #[workV y p, .int .i64 k] (w.alloc o') (TurnedO y p k (w.alloc o'))) := fun o' => turned_any y hc.may p k _ (hc.wk.below (below_al w o') (Nat.le_refl _)) hc.lt
  have HOP : Hid (y.opened k = if (y.dev k).shut then y.turn k else y) := rfl
  have HON := hide' (opened_n y k)
  rw [hae, hbe, Int.toNat_natCast, Int.toNat_natCast] at HE
  have hB := hc.hB
  rw [workV_is] at HT
  have HWC : Hid (workC y p = #[.int .i64 y.points, .slice p.af y.fed.length p.cf, .slice p.ad y.drawn.length p.cd, .slice p.as' y.devs.length p.cs, .slice (some ⟨p.G, 0, none⟩) y.n p.cg, .slice (some ⟨p.L, 0, none⟩) y.n y.n, .slice (some ⟨p.E, 0, none⟩) y.n y.n, .slice (some ⟨p.D, 0, none⟩) y.n y.n]) := rfl
  rw [HWC.out] at HT hB
  have HNN : Hid (a < y.n ∧ b < y.n ∧ y.n ≤ 10) := ⟨ha, hb, hc.may.n_le.2.1⟩
  obtain ⟨sh, hsh⟩ : ∃ x, x = (y.dev k).shut := ⟨_, rfl⟩
  rw [← hsh] at v3 HOP
  obtain ⟨af, hafe⟩ : ∃ x, x = p.af := ⟨_, rfl⟩
  obtain ⟨ad, hade⟩ : ∃ x, x = p.ad := ⟨_, rfl⟩
  obtain ⟨as', hase⟩ : ∃ x, x = p.as' := ⟨_, rfl⟩
  obtain ⟨cf, hcf⟩ : ∃ x, x = p.cf := ⟨_, rfl⟩
  obtain ⟨cd, hcd⟩ : ∃ x, x = p.cd := ⟨_, rfl⟩
  obtain ⟨cs, hcs⟩ : ∃ x, x = p.cs := ⟨_, rfl⟩
  obtain ⟨G, hG⟩ : ∃ x, x = p.G := ⟨_, rfl⟩
  obtain ⟨cg, hcg⟩ : ∃ x, x = p.cg := ⟨_, rfl⟩
  obtain ⟨L, hL⟩ : ∃ x, x = p.L := ⟨_, rfl⟩
  obtain ⟨E, hE⟩ : ∃ x, x = p.E := ⟨_, rfl⟩
  obtain ⟨D, hD⟩ : ∃ x, x = p.D := ⟨_, rfl⟩
  obtain ⟨lf, hlf⟩ : ∃ l, l = y.fed.length := ⟨_, rfl⟩
  obtain ⟨ld, hld⟩ : ∃ l, l = y.drawn.length := ⟨_, rfl⟩
  obtain ⟨ls, hls⟩ : ∃ l, l = y.devs.length := ⟨_, rfl⟩
  obtain ⟨pt, hpt⟩ : ∃ p, p = y.points := ⟨_, rfl⟩
  obtain ⟨nn, hnn⟩ : ∃ p, p = y.n := ⟨_, rfl⟩
  rw [← hafe, ← hade, ← hase, ← hcf, ← hcd, ← hcs, ← hG, ← hcg, ← hL, ← hE, ← hD, ← hlf, ← hld, ← hls, ← hpt, ← hnn] at HT hB HWC
  have HW0 : Hid (∀ o', WorkAt (w.alloc o') y p) := fun o' => hc.wk.below (below_al w o') (Nat.le_refl _)
  have b0 : w.cell? ⟨B, 0, none⟩ = some (.int .i64 pt) := (cells_at hB 0).trans rfl
  have bl0 : ∀ o', (w.alloc o').cell? ⟨B, 0, none⟩ = some (.int .i64 pt) := later b0
  have b1 : w.cell? ⟨B, 1, none⟩ = some (.slice af lf cf) := (cells_at hB 1).trans rfl
  have bl1 : ∀ o', (w.alloc o').cell? ⟨B, 1, none⟩ = some (.slice af lf cf) := later b1
  have b2 : w.cell? ⟨B, 2, none⟩ = some (.slice ad ld cd) := (cells_at hB 2).trans rfl
  have bl2 : ∀ o', (w.alloc o').cell? ⟨B, 2, none⟩ = some (.slice ad ld cd) := later b2
  have b3 : w.cell? ⟨B, 3, none⟩ = some (.slice as' ls cs) := (cells_at hB 3).trans rfl
  have bl3 : ∀ o', (w.alloc o').cell? ⟨B, 3, none⟩ = some (.slice as' ls cs) := later b3
  have b4 : w.cell? ⟨B, 4, none⟩ = some (.slice (some ⟨G, 0, none⟩) nn cg) := (cells_at hB 4).trans rfl
  have bl4 : ∀ o', (w.alloc o').cell? ⟨B, 4, none⟩ = some (.slice (some ⟨G, 0, none⟩) nn cg) := later b4
  have b5 : w.cell? ⟨B, 5, none⟩ = some (.slice (some ⟨L, 0, none⟩) nn nn) := (cells_at hB 5).trans rfl
  have bl5 : ∀ o', (w.alloc o').cell? ⟨B, 5, none⟩ = some (.slice (some ⟨L, 0, none⟩) nn nn) := later b5
  have b6 : w.cell? ⟨B, 6, none⟩ = some (.slice (some ⟨E, 0, none⟩) nn nn) := (cells_at hB 6).trans rfl
  have bl6 : ∀ o', (w.alloc o').cell? ⟨B, 6, none⟩ = some (.slice (some ⟨E, 0, none⟩) nn nn) := later b6
  have b7 : w.cell? ⟨B, 7, none⟩ = some (.slice (some ⟨D, 0, none⟩) nn nn) := (cells_at hB 7).trans rfl
  have bl7 : ∀ o', (w.alloc o').cell? ⟨B, 7, none⟩ = some (.slice (some ⟨D, 0, none⟩) nn nn) := later b7
  have kl := later k0
  have vl := later v3
  clear hc hB hafe hade hase hcf hcd hcs hG hcg hL hE hD hlf hld hls hpt hnn hsh hae hbe ha hb hk2
  go_enter Try.func48, Try.ntmps48
  go_upto_if 8 with fail
  go_cut [4] from 6 to 11 (fun p4 wc => ∃ (O : Nat) (q : Places), p4 = .pointer (some ⟨O, 0, none⟩) ∧ Hid (OpenAt w wc (y.opened k) q O))
  case first =>
    have HAL := hide' (below_al w (.cells #[.int .i64 pt, .slice af lf cf, .slice ad ld cd, .slice as' ls cs, .slice (some ⟨G, 0, none⟩) nn cg, .slice (some ⟨L, 0, none⟩) nn nn, .slice (some ⟨E, 0, none⟩) nn nn, .slice (some ⟨D, 0, none⟩) nn nn] 50))
    cases sh with
    | false =>
      have HOA : Hid (OpenAt w (w.alloc (.cells #[.int .i64 pt, .slice af lf cf, .slice ad ld cd, .slice as' ls cs, .slice (some ⟨G, 0, none⟩) nn cg, .slice (some ⟨L, 0, none⟩) nn nn, .slice (some ⟨E, 0, none⟩) nn nn, .slice (some ⟨D, 0, none⟩) nn nn] 50)) (y.opened k) p w.heap.size) := by
        rw [HOP.out]
        exact ⟨by rw [if_neg (by decide), HWC.out]; exact alloc_new _ _, by rw [if_neg (by decide)]; exact HW0.out _, HAL.out⟩
      go_wp2_with fail
      go_meet
      case rel => exact ⟨_, p, rfl, HOA⟩
    | true =>
      go_wp2_with fail
      refine (HT.out _).mono ?_
      rintro e w1 ⟨q, rfl, hq, hb1⟩
      have hO := (hb1.block w.heap.size (by simp)).trans (alloc_new w (.cells #[.int .i64 pt, .slice af lf cf, .slice ad ld cd, .slice as' ls cs, .slice (some ⟨G, 0, none⟩) nn cg, .slice (some ⟨L, 0, none⟩) nn nn, .slice (some ⟨E, 0, none⟩) nn nn, .slice (some ⟨D, 0, none⟩) nn nn] 50))
      have HBW : Hid (Below w.heap.size w w1) := HAL.out.trans (hb1.mono HAL.out.size)
      rw [workV_is]
      have HWQ : Hid (workC (y.turn k) q = #[.int .i64 (y.turn k).points, .slice q.af (y.turn k).fed.length q.cf, .slice q.ad (y.turn k).drawn.length q.cd, .slice q.as' (y.turn k).devs.length q.cs, .slice (some ⟨q.G, 0, none⟩) (y.turn k).n q.cg, .slice (some ⟨q.L, 0, none⟩) (y.turn k).n (y.turn k).n, .slice (some ⟨q.E, 0, none⟩) (y.turn k).n (y.turn k).n, .slice (some ⟨q.D, 0, none⟩) (y.turn k).n (y.turn k).n]) := rfl
      have hs : ∀ j, j ≠ w.heap.size → ((((((((w1.setCell ⟨w.heap.size, 0, none⟩ (.int .i64 (y.turn k).points)).setCell ⟨w.heap.size, 1, none⟩ (.slice q.af (y.turn k).fed.length q.cf)).setCell ⟨w.heap.size, 2, none⟩ (.slice q.ad (y.turn k).drawn.length q.cd)).setCell ⟨w.heap.size, 3, none⟩ (.slice q.as' (y.turn k).devs.length q.cs)).setCell ⟨w.heap.size, 4, none⟩ (.slice (some ⟨q.G, 0, none⟩) (y.turn k).n q.cg)).setCell ⟨w.heap.size, 5, none⟩ (.slice (some ⟨q.L, 0, none⟩) (y.turn k).n (y.turn k).n)).setCell ⟨w.heap.size, 6, none⟩ (.slice (some ⟨q.E, 0, none⟩) (y.turn k).n (y.turn k).n)).setCell ⟨w.heap.size, 7, none⟩ (.slice (some ⟨q.D, 0, none⟩) (y.turn k).n (y.turn k).n)).heap[j]? = w1.heap[j]? := fun j hj => by
        rw [Below.heap_setCell _ _ _ j hj, Below.heap_setCell _ _ _ j hj, Below.heap_setCell _ _ _ j hj, Below.heap_setCell _ _ _ j hj, Below.heap_setCell _ _ _ j hj, Below.heap_setCell _ _ _ j hj, Below.heap_setCell _ _ _ j hj, Below.heap_setCell _ _ _ j hj]
      have HBF : Hid (Below w.heap.size w ((((((((w1.setCell ⟨w.heap.size, 0, none⟩ (.int .i64 (y.turn k).points)).setCell ⟨w.heap.size, 1, none⟩ (.slice q.af (y.turn k).fed.length q.cf)).setCell ⟨w.heap.size, 2, none⟩ (.slice q.ad (y.turn k).drawn.length q.cd)).setCell ⟨w.heap.size, 3, none⟩ (.slice q.as' (y.turn k).devs.length q.cs)).setCell ⟨w.heap.size, 4, none⟩ (.slice (some ⟨q.G, 0, none⟩) (y.turn k).n q.cg)).setCell ⟨w.heap.size, 5, none⟩ (.slice (some ⟨q.L, 0, none⟩) (y.turn k).n (y.turn k).n)).setCell ⟨w.heap.size, 6, none⟩ (.slice (some ⟨q.E, 0, none⟩) (y.turn k).n (y.turn k).n)).setCell ⟨w.heap.size, 7, none⟩ (.slice (some ⟨q.D, 0, none⟩) (y.turn k).n (y.turn k).n))) := ((((((((HBW.out.setCell (p := ⟨w.heap.size, 0, none⟩) (Nat.le_refl _) _).setCell (p := ⟨w.heap.size, 1, none⟩) (Nat.le_refl _) _).setCell (p := ⟨w.heap.size, 2, none⟩) (Nat.le_refl _) _).setCell (p := ⟨w.heap.size, 3, none⟩) (Nat.le_refl _) _).setCell (p := ⟨w.heap.size, 4, none⟩) (Nat.le_refl _) _).setCell (p := ⟨w.heap.size, 5, none⟩) (Nat.le_refl _) _).setCell (p := ⟨w.heap.size, 6, none⟩) (Nat.le_refl _) _).setCell (p := ⟨w.heap.size, 7, none⟩) (Nat.le_refl _) _)
      have HOA : Hid (OpenAt w ((((((((w1.setCell ⟨w.heap.size, 0, none⟩ (.int .i64 (y.turn k).points)).setCell ⟨w.heap.size, 1, none⟩ (.slice q.af (y.turn k).fed.length q.cf)).setCell ⟨w.heap.size, 2, none⟩ (.slice q.ad (y.turn k).drawn.length q.cd)).setCell ⟨w.heap.size, 3, none⟩ (.slice q.as' (y.turn k).devs.length q.cs)).setCell ⟨w.heap.size, 4, none⟩ (.slice (some ⟨q.G, 0, none⟩) (y.turn k).n q.cg)).setCell ⟨w.heap.size, 5, none⟩ (.slice (some ⟨q.L, 0, none⟩) (y.turn k).n (y.turn k).n)).setCell ⟨w.heap.size, 6, none⟩ (.slice (some ⟨q.E, 0, none⟩) (y.turn k).n (y.turn k).n)).setCell ⟨w.heap.size, 7, none⟩ (.slice (some ⟨q.D, 0, none⟩) (y.turn k).n (y.turn k).n)) (y.opened k) q w.heap.size) := by
        have hop : y.opened k = y.turn k := by have := HOP.out; simpa using this
        rw [hop]
        refine ⟨by rw [HWQ.out]; exact (set_any (set_any (set_any (set_any (set_any (set_any (set_any (set_any hO 0 _) 1 _) 2 _) 3 _) 4 _) 5 _) 6 _) 7 _).trans (congrArg (fun c => some (Obj.cells c 50 (0, 0))) (set8 _ _ _ _ _ _ _ _ _ _ _ _ _ _ _ _)), hq _ (fun j cur e1 fz hj he => hs j (fun e => by subst e; rw [hO] at hj; cases hj; simp at he)) (HC.out.wk.yard.f.below HBF.out (Nat.le_refl _)) (HC.out.wk.yard.d.below HBF.out (Nat.le_refl _)), HBF.out⟩
      have a0 : w1.cell? ⟨w.heap.size, 0, none⟩ = some (.int .i64 pt) := (cells_at hO 0).trans rfl
      have f0 : w1.frozen? ⟨w.heap.size, 0, none⟩ = false := frozen_no hO _
      have a1 : w1.cell? ⟨w.heap.size, 1, none⟩ = some (.slice af lf cf) := (cells_at hO 1).trans rfl
      have f1 : w1.frozen? ⟨w.heap.size, 1, none⟩ = false := frozen_no hO _
      have a2 : w1.cell? ⟨w.heap.size, 2, none⟩ = some (.slice ad ld cd) := (cells_at hO 2).trans rfl
      have f2 : w1.frozen? ⟨w.heap.size, 2, none⟩ = false := frozen_no hO _
      have a3 : w1.cell? ⟨w.heap.size, 3, none⟩ = some (.slice as' ls cs) := (cells_at hO 3).trans rfl
      have f3 : w1.frozen? ⟨w.heap.size, 3, none⟩ = false := frozen_no hO _
      have a4 : w1.cell? ⟨w.heap.size, 4, none⟩ = some (.slice (some ⟨G, 0, none⟩) nn cg) := (cells_at hO 4).trans rfl
      have f4 : w1.frozen? ⟨w.heap.size, 4, none⟩ = false := frozen_no hO _
      have a5 : w1.cell? ⟨w.heap.size, 5, none⟩ = some (.slice (some ⟨L, 0, none⟩) nn nn) := (cells_at hO 5).trans rfl
      have f5 : w1.frozen? ⟨w.heap.size, 5, none⟩ = false := frozen_no hO _
      have a6 : w1.cell? ⟨w.heap.size, 6, none⟩ = some (.slice (some ⟨E, 0, none⟩) nn nn) := (cells_at hO 6).trans rfl
      have f6 : w1.frozen? ⟨w.heap.size, 6, none⟩ = false := frozen_no hO _
      have a7 : w1.cell? ⟨w.heap.size, 7, none⟩ = some (.slice (some ⟨D, 0, none⟩) nn nn) := (cells_at hO 7).trans rfl
      have f7 : w1.frozen? ⟨w.heap.size, 7, none⟩ = false := frozen_no hO _
      rw [HWQ.out]
      clear hq hb1 hs hO
      go_wp2_with fail
      go_meet
      case rel => exact ⟨_, q, rfl, HOA⟩
  case rest =>
    obtain ⟨O, q, rfl, HOA⟩ := hcut
    clear HT HW0 HWC b0 bl0 b1 bl1 b2 bl2 b3 bl3 b4 bl4 b5 bl5 b6 bl6 b7 bl7 k0 kl v3 vl
    obtain ⟨v1, v2⟩ := HVC.out wc HOA.out.bel
    have o4 : wc.cell? ⟨O, 4, none⟩ = some (.slice (some ⟨q.G, 0, none⟩) (y.opened k).n q.cg) := (cells_at HOA.out.hO 4).trans rfl
    obtain ⟨hna, hnb, hn10⟩ := HNN.out
    rw [HON.out] at o4
    have ga := row_int HOA.out.wk.grp (p := a) (by rw [HON.out]; exact hna)
    have gb := row_int HOA.out.wk.grp (p := b) (by rw [HON.out]; exact hnb)
    have H1 : Hid (∀ m, Calls Try.prog 49 #[.int .i64 a, .int .i64 b, .pointer (some ⟨O, 0, none⟩)] (wc.drewN m) fun e w' => e = .returned (.bool (ontoB (y.opened k) a b)) ∧ w' = wc.drewN m) := fun m => onto_any (y.opened k) q O a b (wc.drewN m) ((cells_at HOA.out.hO 5).trans rfl) ((cells_at HOA.out.hO 7).trans rfl) (HOA.out.wk.below (below_drewN (Below.refl _ wc) m) (Nat.le_refl _)) (by rw [HON.out]; exact hna) (by rw [HON.out]; exact hnb)
    have H2 : Hid (∀ m, Calls Try.prog 49 #[.int .i64 b, .int .i64 a, .pointer (some ⟨O, 0, none⟩)] (wc.drewN m) fun e w' => e = .returned (.bool (ontoB (y.opened k) b a)) ∧ w' = wc.drewN m) := fun m => onto_any (y.opened k) q O b a (wc.drewN m) ((cells_at HOA.out.hO 5).trans rfl) ((cells_at HOA.out.hO 7).trans rfl) (HOA.out.wk.below (below_drewN (Below.refl _ wc) m) (Nat.le_refl _)) (by rw [HON.out]; exact hnb) (by rw [HON.out]; exact hna)
    have HBF : Hid (∀ m, Below w.heap.size w (wc.drewN m)) := fun m => below_drewN HOA.out.bel m
    have HSG : Hid (sameG (y.opened k) a b = ((y.opened k).grp.getD a 0 == (y.opened k).grp.getD b 0)) := rfl
    obtain ⟨xa, hxa⟩ : ∃ x, x = (y.opened k).grp.getD a 0 := ⟨_, rfl⟩
    obtain ⟨xb, hxb⟩ : ∃ x, x = (y.opened k).grp.getD b 0 := ⟨_, rfl⟩
    obtain ⟨o1, ho1⟩ : ∃ x, x = ontoB (y.opened k) a b := ⟨_, rfl⟩
    obtain ⟨o2, ho2⟩ : ∃ x, x = ontoB (y.opened k) b a := ⟨_, rfl⟩
    obtain ⟨GG, hGG⟩ : ∃ x, x = q.G := ⟨_, rfl⟩
    obtain ⟨cgg, hcgg⟩ : ∃ x, x = q.cg := ⟨_, rfl⟩
    obtain ⟨n, hn⟩ : ∃ x, x = y.n := ⟨_, rfl⟩
    rw [← hGG, ← hxa] at ga
    rw [← hGG, ← hxb] at gb
    rw [← hGG, ← hcgg, ← hn] at o4
    rw [HSG.out, ← hxa, ← hxb, ← ho1, ← ho2] at HE
    rw [← ho1] at H1
    rw [← ho2] at H2
    rw [← hn] at hna hnb hn10
    clear hxa hxb ho1 ho2 hGG hcgg hn HSG HOA HVC HNN HON HOP HC
    go_wp2_with fail
    by_cases hx : xa = xb
    · subst hx
      have hx1 : (xa != xa) = false := by simp
      go_quiet (fail)
      go_wp2
      go_ret
      exact ⟨by rw [HE.out]; simp, HBF.out _⟩
    · have hx1 : (xa != xb) = true := by simp [hx]
      cases o1 with
      | true =>
        go_quiet ((go_at_call 49; exact Calls.quiet_of_same (H1.out _)))
        go_wp2
        go_ret
        exact ⟨by rw [HE.out]; simp [hx], HBF.out _⟩
      | false =>
        cases o2 with
        | true =>
          go_quiet ((go_at_call 49; first | (with_reducible exact Calls.quiet_of_same (H1.out _)) | (with_reducible exact Calls.quiet_of_same (H2.out _))))
          go_wp2
          go_ret
          exact ⟨by rw [HE.out]; simp [hx], HBF.out _⟩
        | false =>
          go_quiet ((go_at_call 49; first | (with_reducible exact Calls.quiet_of_same (H1.out _)) | (with_reducible exact Calls.quiet_of_same (H2.out _))))
          go_wp2
          go_ret
          exact ⟨by rw [HE.out]; simp, HBF.out _⟩
end Go.Proofs.Ytcnoipcpifackah
