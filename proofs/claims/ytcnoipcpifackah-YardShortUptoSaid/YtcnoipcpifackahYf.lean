/- Moving a device, in the program. -/
import Derived.Test.YtcnoipcpifackahYe
namespace Go.Proofs.Ytcnoipcpifackah
open Go.RowKit Go.Shelf

/-- P10.3: what is wrong with moving it; 0: nothing. -/
def moveErr (y : YardM) (k : Nat) : Int := if (y.dev k).kind = 1 then earthE y k else if (y.dev k).kind = 2 then (if loadE y k ≠ 0 then loadE y k else earthE y k) else liveE y k
/-- What move answers. -/
def MoveO (y : YardM) (p : Places) (k : Nat) (w : World) (e : Ending) (w' : World) : Prop :=
  ((moveErr y k ≠ 0 ∧ e = .returned (.tuple #[.agg zero8, .int .i64 (moveErr y k)])) ∨ (moveErr y k = 0 ∧ ∃ q, e = .returned (.tuple #[workV (y.turn k) q, .int .i64 0]) ∧ ∀ w2, KeepX w' w2 → RowAt w2 (.slice p.af y.fed.length p.cf) y.fed.length 1 (ints y.fed) → RowAt w2 (.slice p.ad y.drawn.length p.cd) y.drawn.length 1 (ints y.drawn) → WorkAt w2 (y.turn k) q)) ∧ Below w.heap.size w w'
structure MB (w wr : World) (B2 A : Nat) (bv : Array Value) : Prop where
  hB : wr.heap[B2]? = some (.cells bv 50 (0, 0))
  hA : wr.heap[A]? = some (.cells zero8 50 (0, 0))
  nBA : B2 ≠ A
  sA : w.heap.size ≤ A
  bel : Below w.heap.size w wr
theorem MB.more {w wr wr' : World} {B2 A : Nat} {bv : Array Value} (h : MB w wr B2 A bv) (hb : Below wr.heap.size wr wr') : MB w wr' B2 A bv :=
  ⟨(hb.block B2 (Array.getElem?_eq_some_iff.1 h.hB).1).trans h.hB, (hb.block A (Array.getElem?_eq_some_iff.1 h.hA).1).trans h.hA, h.nBA, h.sA, h.bel.trans (hb.mono h.bel.size)⟩
set_option maxRecDepth 100000 in
set_option maxHeartbeats 2000000 in
theorem move_any (y : YardM) (hm : MayY y) (p : Places) (k : Nat) (w : World) (hw : WorkAt w y p) (hk : k < y.devs.length) : Calls Try.prog 20 #[workV y p, .int .i64 k] w (MoveO y p k w) := by
  have HWO : Hid (∀ e w', ((moveErr y k ≠ 0 ∧ e = .returned (.tuple #[.agg zero8, .int .i64 (moveErr y k)])) ∨ (moveErr y k = 0 ∧ ∃ q, e = .returned (.tuple #[workV (y.turn k) q, .int .i64 0]) ∧ ∀ w2, KeepX w' w2 → RowAt w2 (.slice p.af y.fed.length p.cf) y.fed.length 1 (ints y.fed) → RowAt w2 (.slice p.ad y.drawn.length p.cd) y.drawn.length 1 (ints y.drawn) → WorkAt w2 (y.turn k) q)) ∧ Below w.heap.size w w' → MoveO y p k w e w') := fun _ _ h => h
  obtain ⟨R, hR⟩ : ∃ R, R = MoveO y p k w := ⟨_, rfl⟩
  rw [← hR] at HWO ⊢
  have HW := hide' hw
  have HM := hide' hm
  have HK := hide' hk
  have HKD : Hid ((y.dev k).kind = 1 ∨ (y.dev k).kind = 2 ∨ (y.dev k).kind = 3) := by rcases hm.o _ (dev_get hk).2 with ⟨h1 | h1, _⟩ | ⟨h1, _⟩; exact .inl h1; exact .inr (.inl h1); exact .inr (.inr h1)
  have HME : Hid (moveErr y k = if (y.dev k).kind = 1 then earthE y k else if (y.dev k).kind = 2 then (if loadE y k ≠ 0 then loadE y k else earthE y k) else liveE y k) := rfl
  have HWR : Hid (∀ w', Below w.heap.size w w' → Calls Try.prog 31 #[workV y p, .int .i64 k] w' (WrongsO y p k w')) := fun w' hb => wrongs_any y hm p k w' (hw.below hb (Nat.le_refl _)) hk
  have HTU : Hid (∀ w', Below w.heap.size w w' → Calls Try.prog 32 #[workV y p, .int .i64 k] w' (TurnedO y p k w')) := fun w' hb => turned_any y hm p k w' (hw.below hb (Nat.le_refl _)) hk
  have HCE : Hid (∀ B V K w', Caught w' y p k B V K → Calls Try.prog 50 #[.pointer (some ⟨V, 0, none⟩), .pointer (some ⟨B, 0, none⟩), .pointer (some ⟨K, 0, none⟩)] w' fun e w2 => e = .returned (.int .i64 (earthE y k)) ∧ Below w'.heap.size w' w2) := fun B V K w' hc => earth_any y p k B V K w' hc
  have HCL : Hid ((y.dev k).kind ≠ 3 → ∀ B V K w', Caught w' y p k B V K → Calls Try.prog 48 #[.pointer (some ⟨B, 0, none⟩), .pointer (some ⟨V, 0, none⟩), .pointer (some ⟨K, 0, none⟩)] w' fun e w2 => e = .returned (.int .i64 (loadE y k)) ∧ Below w'.heap.size w' w2) := fun h3 B V K w' hc => load_any y p k B V K w' hc h3
  have HCV : Hid (∀ B V K w', Caught w' y p k B V K → Calls Try.prog 51 #[.pointer (some ⟨V, 0, none⟩), .pointer (some ⟨B, 0, none⟩)] w' fun e w2 => e = .returned (.int .i64 (liveE y k)) ∧ Below w'.heap.size w' w2) := fun B V K w' hc => live_any y p k B V K w' hc
  rw [workV_is] at HWR HTU ⊢
  have HWC : Hid (workC y p = #[.int .i64 y.points, .slice p.af y.fed.length p.cf, .slice p.ad y.drawn.length p.cd, .slice p.as' y.devs.length p.cs, .slice (some ⟨p.G, 0, none⟩) y.n p.cg, .slice (some ⟨p.L, 0, none⟩) y.n y.n, .slice (some ⟨p.E, 0, none⟩) y.n y.n, .slice (some ⟨p.D, 0, none⟩) y.n y.n]) := rfl
  rw [HWC.out] at HWR HTU ⊢
  obtain ⟨af, hafe⟩ : ∃ x, x = p.af := ⟨_, rfl⟩
  obtain ⟨ad, hade⟩ : ∃ x, x = p.ad := ⟨_, rfl⟩
  obtain ⟨as', hase⟩ : ∃ x, x = p.as' := ⟨_, rfl⟩
  obtain ⟨cf, hcf⟩ : ∃ x, x = p.cf := ⟨_, rfl⟩
  obtain ⟨cd, hcd⟩ : ∃ x, x = p.cd := ⟨_, rfl⟩
  obtain ⟨cs, hcs⟩ : ∃ x, x = p.cs := ⟨_, rfl⟩
  obtain ⟨G, hG⟩ : ∃ x, x = p.G := ⟨_, rfl⟩
  obtain ⟨cg, hcg⟩ : ∃ x, x = p.cg := ⟨_, rfl⟩
  obtain ⟨L, hL⟩ : ∃ x, x = p.L := ⟨_, rfl⟩
  obtain ⟨E, hE⟩ : ∃ x, x = p.E := ⟨_, rfl⟩
  obtain ⟨D, hD⟩ : ∃ x, x = p.D := ⟨_, rfl⟩
  obtain ⟨lf, hlf⟩ : ∃ l, l = y.fed.length := ⟨_, rfl⟩
  obtain ⟨ld, hld⟩ : ∃ l, l = y.drawn.length := ⟨_, rfl⟩
  obtain ⟨ls, hls⟩ : ∃ l, l = y.devs.length := ⟨_, rfl⟩
  obtain ⟨pt, hpt⟩ : ∃ p, p = y.points := ⟨_, rfl⟩
  obtain ⟨nn, hnn⟩ : ∃ p, p = y.n := ⟨_, rfl⟩
  rw [← hafe, ← hade, ← hase, ← hcf, ← hcd, ← hcs, ← hG, ← hcg, ← hL, ← hE, ← hD, ← hlf, ← hld, ← hls, ← hpt, ← hnn] at HWR HTU HWC ⊢
  obtain ⟨xe, hxe⟩ : ∃ x, x = earthE y k := ⟨_, rfl⟩
  obtain ⟨xl, hxl⟩ : ∃ x, x = loadE y k := ⟨_, rfl⟩
  obtain ⟨xv, hxv⟩ : ∃ x, x = liveE y k := ⟨_, rfl⟩
  obtain ⟨kd, hkd⟩ : ∃ x, x = (y.dev k).kind := ⟨_, rfl⟩
  have HKDE := hide' hkd
  rw [← hxe] at HCE HME
  rw [← hxl] at HCL HME
  rw [← hxv] at HCV HME
  rw [← hkd] at HME HKD HCL
  clear hw hm hk hafe hade hase hcf hcd hcs hG hcg hL hE hD hlf hld hls hpt hnn hxe hxl hxv hkd hR
  go_enter Try.func20, Try.ntmps20
  go_upto_region 1 with fail
  have HB0 : Hid (MB w ((w.alloc (.cells #[.int .i64 pt, .slice af lf cf, .slice ad ld cd, .slice as' ls cs, .slice (some ⟨G, 0, none⟩) nn cg, .slice (some ⟨L, 0, none⟩) nn nn, .slice (some ⟨E, 0, none⟩) nn nn, .slice (some ⟨D, 0, none⟩) nn nn] 50)).alloc (.cells #[.int .i64 0, .slice none 0 0, .slice none 0 0, .slice none 0 0, .slice none 0 0, .slice none 0 0, .slice none 0 0, .slice none 0 0] 50)) w.heap.size (w.heap.size + 1) #[.int .i64 pt, .slice af lf cf, .slice ad ld cd, .slice as' ls cs, .slice (some ⟨G, 0, none⟩) nn cg, .slice (some ⟨L, 0, none⟩) nn nn, .slice (some ⟨E, 0, none⟩) nn nn, .slice (some ⟨D, 0, none⟩) nn nn]) := by
    have hA := alloc_new (w.alloc (.cells #[.int .i64 pt, .slice af lf cf, .slice ad ld cd, .slice as' ls cs, .slice (some ⟨G, 0, none⟩) nn cg, .slice (some ⟨L, 0, none⟩) nn nn, .slice (some ⟨E, 0, none⟩) nn nn, .slice (some ⟨D, 0, none⟩) nn nn] 50)) (.cells #[.int .i64 0, .slice none 0 0, .slice none 0 0, .slice none 0 0, .slice none 0 0, .slice none 0 0, .slice none 0 0, .slice none 0 0] 50)
    rw [World.size_alloc] at hA
    exact ⟨(alloc_old _ _ (by simp)).trans (alloc_new _ _), hA, by omega, by omega, (below_al w _).alloc (by simp) _⟩
  obtain ⟨w1, hw1⟩ : ∃ x, x = (w.alloc (.cells #[.int .i64 pt, .slice af lf cf, .slice ad ld cd, .slice as' ls cs, .slice (some ⟨G, 0, none⟩) nn cg, .slice (some ⟨L, 0, none⟩) nn nn, .slice (some ⟨E, 0, none⟩) nn nn, .slice (some ⟨D, 0, none⟩) nn nn] 50)).alloc (.cells #[.int .i64 0, .slice none 0 0, .slice none 0 0, .slice none 0 0, .slice none 0 0, .slice none 0 0, .slice none 0 0, .slice none 0 0] 50) := ⟨_, rfl⟩
  rw [← hw1] at HB0 ⊢
  obtain ⟨A, hA⟩ : ∃ S, S = w.heap.size + 1 := ⟨_, rfl⟩
  rw [← hA] at HB0 ⊢
  obtain ⟨B2, hB2⟩ : ∃ S, S = w.heap.size := ⟨_, rfl⟩
  have HB1 : Hid (MB w w1 B2 A #[.int .i64 pt, .slice af lf cf, .slice ad ld cd, .slice as' ls cs, .slice (some ⟨G, 0, none⟩) nn cg, .slice (some ⟨L, 0, none⟩) nn nn, .slice (some ⟨E, 0, none⟩) nn nn, .slice (some ⟨D, 0, none⟩) nn nn]) := by rw [hB2]; exact HB0
  rw [show (Value.pointer (some { block := w.heap.size, off := 0 })) = Value.pointer (some { block := B2, off := 0 }) by rw [hB2]]
  clear hw1 hA hB2 HB0
  have b0 : w1.cell? ⟨B2, 0, none⟩ = some (.int .i64 pt) := (cells_at HB1.out.hB 0).trans rfl
  have b1 : w1.cell? ⟨B2, 1, none⟩ = some (.slice af lf cf) := (cells_at HB1.out.hB 1).trans rfl
  have b2 : w1.cell? ⟨B2, 2, none⟩ = some (.slice ad ld cd) := (cells_at HB1.out.hB 2).trans rfl
  have b3 : w1.cell? ⟨B2, 3, none⟩ = some (.slice as' ls cs) := (cells_at HB1.out.hB 3).trans rfl
  have b4 : w1.cell? ⟨B2, 4, none⟩ = some (.slice (some ⟨G, 0, none⟩) nn cg) := (cells_at HB1.out.hB 4).trans rfl
  have b5 : w1.cell? ⟨B2, 5, none⟩ = some (.slice (some ⟨L, 0, none⟩) nn nn) := (cells_at HB1.out.hB 5).trans rfl
  have b6 : w1.cell? ⟨B2, 6, none⟩ = some (.slice (some ⟨E, 0, none⟩) nn nn) := (cells_at HB1.out.hB 6).trans rfl
  have b7 : w1.cell? ⟨B2, 7, none⟩ = some (.slice (some ⟨D, 0, none⟩) nn nn) := (cells_at HB1.out.hB 7).trans rfl
  have HW1 := hide' (HWR.out w1 HB1.out.bel)
  go_wp2_with fail
  refine HW1.out.mono ?_
  rintro e w2 ⟨B, V, K, F, rfl, hF, hca, hb2⟩
  rw [← HKDE.out] at hF ⊢
  have HB2 := hide' (HB1.out.more hb2)
  have HCA := hide' hca
  clear HW1 HWR HB1 hb2 hca b0 b1 b2 b3 b4 b5 b6 b7
  rcases HKD.out with h1 | h1 | h1
  · subst h1
    have HF : Hid (w2.heap[F]? = some (.cells #[.func (.func 50) #[] #[.pointer (some ⟨V, 0, none⟩), .pointer (some ⟨B, 0, none⟩), .pointer (some ⟨K, 0, none⟩)]] 65 (0, 0))) := hF
    have HMK : Hid (moveErr y k = xe) := HME.out
    rw [show (wrongF 1 B V K).length = 1 from rfl]
    clear hF HKD HKDE HME
    go_wp2_with fail
    go_loopw [13] (fun i wr => ∃ (j : Nat), i = .int .i64 j ∧ j ≤ 1 ∧ Hid (0 < j → xe = 0) ∧ Hid (MB w wr B2 A #[.int .i64 pt, .slice af lf cf, .slice ad ld cd, .slice as' ls cs, .slice (some ⟨G, 0, none⟩) nn cg, .slice (some ⟨L, 0, none⟩) nn nn, .slice (some ⟨E, 0, none⟩) nn nn, .slice (some ⟨D, 0, none⟩) nn nn]) ∧ Hid (wr.heap[F]? = some (.cells #[.func (.func 50) #[] #[.pointer (some ⟨V, 0, none⟩), .pointer (some ⟨B, 0, none⟩), .pointer (some ⟨K, 0, none⟩)]] 65 (0, 0))) ∧ Hid (Caught wr y p k B V K)) (fun i _ => 1 - (intOf i).toNat)
    case atStart => exact ⟨0, rfl, Nat.zero_le _, fun h => absurd h (by decide), HB2, HF, HCA⟩
    case round =>
      clear HB2 HF HCA
      obtain ⟨j, rfl, hj, HE, HB, HF, HCA⟩ := hrel
      by_cases hj0 : j = 0
      · subst hj0
        have c0 : wr.cell? ⟨F, 0, none⟩ = some (.func (.func 50) #[] #[.pointer (some ⟨V, 0, none⟩), .pointer (some ⟨B, 0, none⟩), .pointer (some ⟨K, 0, none⟩)]) := (cells_at HF.out 0).trans rfl
        have HC1 := hide' (HCE.out B V K wr HCA.out)
        go_wp2_with fail
        refine HC1.out.mono ?_
        rintro e w3 ⟨rfl, hb3⟩
        have HB3 := hide' (HB.out.more hb3)
        have HF3 := hide' ((hb3.block F (Array.getElem?_eq_some_iff.1 HF.out).1).trans HF.out)
        have HCA3 := hide' (HCA.out.below hb3)
        clear hb3 HC1 c0 HB HF HCA
        by_cases hx0 : xe = 0
        · have HX := hide' hx0
          have hx1 : (xe != 0) = false := by simp [hx0]
          clear hx0
          go_wp2
          go_roundw
          case rel => exact ⟨0 + 1, by go_num, by omega, fun _ => HX.out, HB3, HF3, HCA3⟩
          case measure => simp [intOf]
        · have hx1 : (xe != 0) = true := by simp [hx0]
          have HERR : Hid (moveErr y k = xe) := by exact HMK.out
          have HX := hide' hx0
          have HAA : Hid (((((((((w3.setCell ⟨A, 0, none⟩ (.int .i64 0)).setCell ⟨A, 1, none⟩ (.slice none 0 0)).setCell ⟨A, 2, none⟩ (.slice none 0 0)).setCell ⟨A, 3, none⟩ (.slice none 0 0)).setCell ⟨A, 4, none⟩ (.slice none 0 0)).setCell ⟨A, 5, none⟩ (.slice none 0 0)).setCell ⟨A, 6, none⟩ (.slice none 0 0)).setCell ⟨A, 7, none⟩ (.slice none 0 0)).heap[A]? = some (.cells zero8 50 (0, 0))) := (set_any (set_any (set_any (set_any (set_any (set_any (set_any (set_any HB3.out.hA 0 _) 1 _) 2 _) 3 _) 4 _) 5 _) 6 _) 7 _).trans (congrArg (fun c => some (Obj.cells c 50 (0, 0))) (set8 _ _ _ _ _ _ _ _ _ _ _ _ _ _ _ _))
          have HBF : Hid (Below w.heap.size w ((((((((w3.setCell ⟨A, 0, none⟩ (.int .i64 0)).setCell ⟨A, 1, none⟩ (.slice none 0 0)).setCell ⟨A, 2, none⟩ (.slice none 0 0)).setCell ⟨A, 3, none⟩ (.slice none 0 0)).setCell ⟨A, 4, none⟩ (.slice none 0 0)).setCell ⟨A, 5, none⟩ (.slice none 0 0)).setCell ⟨A, 6, none⟩ (.slice none 0 0)).setCell ⟨A, 7, none⟩ (.slice none 0 0))) := ((((((((HB3.out.bel.setCell (p := ⟨A, 0, none⟩) HB3.out.sA _).setCell (p := ⟨A, 1, none⟩) HB3.out.sA _).setCell (p := ⟨A, 2, none⟩) HB3.out.sA _).setCell (p := ⟨A, 3, none⟩) HB3.out.sA _).setCell (p := ⟨A, 4, none⟩) HB3.out.sA _).setCell (p := ⟨A, 5, none⟩) HB3.out.sA _).setCell (p := ⟨A, 6, none⟩) HB3.out.sA _).setCell (p := ⟨A, 7, none⟩) HB3.out.sA _)
          have a0 : w3.cell? ⟨A, 0, none⟩ = some (.int .i64 0) := (cells_at HB3.out.hA 0).trans rfl
          have f0 : w3.frozen? ⟨A, 0, none⟩ = false := frozen_no HB3.out.hA _
          have a1 : w3.cell? ⟨A, 1, none⟩ = some (.slice none 0 0) := (cells_at HB3.out.hA 1).trans rfl
          have f1 : w3.frozen? ⟨A, 1, none⟩ = false := frozen_no HB3.out.hA _
          have a2 : w3.cell? ⟨A, 2, none⟩ = some (.slice none 0 0) := (cells_at HB3.out.hA 2).trans rfl
          have f2 : w3.frozen? ⟨A, 2, none⟩ = false := frozen_no HB3.out.hA _
          have a3 : w3.cell? ⟨A, 3, none⟩ = some (.slice none 0 0) := (cells_at HB3.out.hA 3).trans rfl
          have f3 : w3.frozen? ⟨A, 3, none⟩ = false := frozen_no HB3.out.hA _
          have a4 : w3.cell? ⟨A, 4, none⟩ = some (.slice none 0 0) := (cells_at HB3.out.hA 4).trans rfl
          have f4 : w3.frozen? ⟨A, 4, none⟩ = false := frozen_no HB3.out.hA _
          have a5 : w3.cell? ⟨A, 5, none⟩ = some (.slice none 0 0) := (cells_at HB3.out.hA 5).trans rfl
          have f5 : w3.frozen? ⟨A, 5, none⟩ = false := frozen_no HB3.out.hA _
          have a6 : w3.cell? ⟨A, 6, none⟩ = some (.slice none 0 0) := (cells_at HB3.out.hA 6).trans rfl
          have f6 : w3.frozen? ⟨A, 6, none⟩ = false := frozen_no HB3.out.hA _
          have a7 : w3.cell? ⟨A, 7, none⟩ = some (.slice none 0 0) := (cells_at HB3.out.hA 7).trans rfl
          have f7 : w3.frozen? ⟨A, 7, none⟩ = false := frozen_no HB3.out.hA _
          go_wp2
          refine bodyPost_ret (results_cell_row1 rfl _ _ A 50 _ (0, 0) _ rfl HAA.out Try.underlying50 rfl (by kernel_rfl)) rfl ?_
          exact HWO.out _ _ ⟨.inl ⟨by rw [HERR.out]; exact HX.out, by rw [HERR.out]; rfl⟩, HBF.out⟩
      have hje : j = 1 := by omega
      subst hje
      have HOKE : Hid (moveErr y k = 0) := by rw [HMK.out]; exact HE.out (by decide)
      have HTU1 := hide' (HTU.out wr HB.out.bel)
      have b0 : wr.cell? ⟨B2, 0, none⟩ = some (.int .i64 pt) := (cells_at HB.out.hB 0).trans rfl
      have b1 : wr.cell? ⟨B2, 1, none⟩ = some (.slice af lf cf) := (cells_at HB.out.hB 1).trans rfl
      have b2 : wr.cell? ⟨B2, 2, none⟩ = some (.slice ad ld cd) := (cells_at HB.out.hB 2).trans rfl
      have b3 : wr.cell? ⟨B2, 3, none⟩ = some (.slice as' ls cs) := (cells_at HB.out.hB 3).trans rfl
      have b4 : wr.cell? ⟨B2, 4, none⟩ = some (.slice (some ⟨G, 0, none⟩) nn cg) := (cells_at HB.out.hB 4).trans rfl
      have b5 : wr.cell? ⟨B2, 5, none⟩ = some (.slice (some ⟨L, 0, none⟩) nn nn) := (cells_at HB.out.hB 5).trans rfl
      have b6 : wr.cell? ⟨B2, 6, none⟩ = some (.slice (some ⟨E, 0, none⟩) nn nn) := (cells_at HB.out.hB 6).trans rfl
      have b7 : wr.cell? ⟨B2, 7, none⟩ = some (.slice (some ⟨D, 0, none⟩) nn nn) := (cells_at HB.out.hB 7).trans rfl
      go_wp2_with fail
      refine HTU1.out.mono ?_
      rintro e w5 ⟨q, rfl, hq, hb5⟩
      have HB5 := hide' (HB.out.more hb5)
      clear b0 b1 b2 b3 b4 b5 b6 b7 HTU1
      rw [workV_is]
      have HWQ : Hid (workC (y.turn k) q = #[.int .i64 (y.turn k).points, .slice q.af (y.turn k).fed.length q.cf, .slice q.ad (y.turn k).drawn.length q.cd, .slice q.as' (y.turn k).devs.length q.cs, .slice (some ⟨q.G, 0, none⟩) (y.turn k).n q.cg, .slice (some ⟨q.L, 0, none⟩) (y.turn k).n (y.turn k).n, .slice (some ⟨q.E, 0, none⟩) (y.turn k).n (y.turn k).n, .slice (some ⟨q.D, 0, none⟩) (y.turn k).n (y.turn k).n]) := rfl
      have hs : ∀ j, j ≠ A → ((((((((w5.setCell ⟨A, 0, none⟩ (.int .i64 (y.turn k).points)).setCell ⟨A, 1, none⟩ (.slice q.af (y.turn k).fed.length q.cf)).setCell ⟨A, 2, none⟩ (.slice q.ad (y.turn k).drawn.length q.cd)).setCell ⟨A, 3, none⟩ (.slice q.as' (y.turn k).devs.length q.cs)).setCell ⟨A, 4, none⟩ (.slice (some ⟨q.G, 0, none⟩) (y.turn k).n q.cg)).setCell ⟨A, 5, none⟩ (.slice (some ⟨q.L, 0, none⟩) (y.turn k).n (y.turn k).n)).setCell ⟨A, 6, none⟩ (.slice (some ⟨q.E, 0, none⟩) (y.turn k).n (y.turn k).n)).setCell ⟨A, 7, none⟩ (.slice (some ⟨q.D, 0, none⟩) (y.turn k).n (y.turn k).n)).heap[j]? = w5.heap[j]? := fun j hj => by
        rw [Below.heap_setCell _ _ _ j hj, Below.heap_setCell _ _ _ j hj, Below.heap_setCell _ _ _ j hj, Below.heap_setCell _ _ _ j hj, Below.heap_setCell _ _ _ j hj, Below.heap_setCell _ _ _ j hj, Below.heap_setCell _ _ _ j hj, Below.heap_setCell _ _ _ j hj]
      have HBF : Hid (Below w.heap.size w ((((((((w5.setCell ⟨A, 0, none⟩ (.int .i64 (y.turn k).points)).setCell ⟨A, 1, none⟩ (.slice q.af (y.turn k).fed.length q.cf)).setCell ⟨A, 2, none⟩ (.slice q.ad (y.turn k).drawn.length q.cd)).setCell ⟨A, 3, none⟩ (.slice q.as' (y.turn k).devs.length q.cs)).setCell ⟨A, 4, none⟩ (.slice (some ⟨q.G, 0, none⟩) (y.turn k).n q.cg)).setCell ⟨A, 5, none⟩ (.slice (some ⟨q.L, 0, none⟩) (y.turn k).n (y.turn k).n)).setCell ⟨A, 6, none⟩ (.slice (some ⟨q.E, 0, none⟩) (y.turn k).n (y.turn k).n)).setCell ⟨A, 7, none⟩ (.slice (some ⟨q.D, 0, none⟩) (y.turn k).n (y.turn k).n))) := ((((((((HB5.out.bel.setCell (p := ⟨A, 0, none⟩) HB5.out.sA _).setCell (p := ⟨A, 1, none⟩) HB5.out.sA _).setCell (p := ⟨A, 2, none⟩) HB5.out.sA _).setCell (p := ⟨A, 3, none⟩) HB5.out.sA _).setCell (p := ⟨A, 4, none⟩) HB5.out.sA _).setCell (p := ⟨A, 5, none⟩) HB5.out.sA _).setCell (p := ⟨A, 6, none⟩) HB5.out.sA _).setCell (p := ⟨A, 7, none⟩) HB5.out.sA _)
      have HAA : Hid (((((((((w5.setCell ⟨A, 0, none⟩ (.int .i64 (y.turn k).points)).setCell ⟨A, 1, none⟩ (.slice q.af (y.turn k).fed.length q.cf)).setCell ⟨A, 2, none⟩ (.slice q.ad (y.turn k).drawn.length q.cd)).setCell ⟨A, 3, none⟩ (.slice q.as' (y.turn k).devs.length q.cs)).setCell ⟨A, 4, none⟩ (.slice (some ⟨q.G, 0, none⟩) (y.turn k).n q.cg)).setCell ⟨A, 5, none⟩ (.slice (some ⟨q.L, 0, none⟩) (y.turn k).n (y.turn k).n)).setCell ⟨A, 6, none⟩ (.slice (some ⟨q.E, 0, none⟩) (y.turn k).n (y.turn k).n)).setCell ⟨A, 7, none⟩ (.slice (some ⟨q.D, 0, none⟩) (y.turn k).n (y.turn k).n)).heap[A]? = some (.cells #[.int .i64 (y.turn k).points, .slice q.af (y.turn k).fed.length q.cf, .slice q.ad (y.turn k).drawn.length q.cd, .slice q.as' (y.turn k).devs.length q.cs, .slice (some ⟨q.G, 0, none⟩) (y.turn k).n q.cg, .slice (some ⟨q.L, 0, none⟩) (y.turn k).n (y.turn k).n, .slice (some ⟨q.E, 0, none⟩) (y.turn k).n (y.turn k).n, .slice (some ⟨q.D, 0, none⟩) (y.turn k).n (y.turn k).n] 50 (0, 0))) := (set_any (set_any (set_any (set_any (set_any (set_any (set_any (set_any HB5.out.hA 0 _) 1 _) 2 _) 3 _) 4 _) 5 _) 6 _) 7 _).trans (congrArg (fun c => some (Obj.cells c 50 (0, 0))) (set8 _ _ _ _ _ _ _ _ _ _ _ _ _ _ _ _))
      have HWF : Hid (∀ w2, KeepX ((((((((w5.setCell ⟨A, 0, none⟩ (.int .i64 (y.turn k).points)).setCell ⟨A, 1, none⟩ (.slice q.af (y.turn k).fed.length q.cf)).setCell ⟨A, 2, none⟩ (.slice q.ad (y.turn k).drawn.length q.cd)).setCell ⟨A, 3, none⟩ (.slice q.as' (y.turn k).devs.length q.cs)).setCell ⟨A, 4, none⟩ (.slice (some ⟨q.G, 0, none⟩) (y.turn k).n q.cg)).setCell ⟨A, 5, none⟩ (.slice (some ⟨q.L, 0, none⟩) (y.turn k).n (y.turn k).n)).setCell ⟨A, 6, none⟩ (.slice (some ⟨q.E, 0, none⟩) (y.turn k).n (y.turn k).n)).setCell ⟨A, 7, none⟩ (.slice (some ⟨q.D, 0, none⟩) (y.turn k).n (y.turn k).n)) w2 → RowAt w2 (.slice p.af y.fed.length p.cf) y.fed.length 1 (ints y.fed) → RowAt w2 (.slice p.ad y.drawn.length p.cd) y.drawn.length 1 (ints y.drawn) → WorkAt w2 (y.turn k) q) := fun w2 hk2 => hq w2 (KeepX.trans (fun j cur e1 fz hj he => hs j (fun e => by subst e; rw [HB5.out.hA] at hj; cases hj; simp at he)) hk2)
      have a0 : w5.cell? ⟨A, 0, none⟩ = some (.int .i64 0) := (cells_at HB5.out.hA 0).trans rfl
      have f0 : w5.frozen? ⟨A, 0, none⟩ = false := frozen_no HB5.out.hA _
      have a1 : w5.cell? ⟨A, 1, none⟩ = some (.slice none 0 0) := (cells_at HB5.out.hA 1).trans rfl
      have f1 : w5.frozen? ⟨A, 1, none⟩ = false := frozen_no HB5.out.hA _
      have a2 : w5.cell? ⟨A, 2, none⟩ = some (.slice none 0 0) := (cells_at HB5.out.hA 2).trans rfl
      have f2 : w5.frozen? ⟨A, 2, none⟩ = false := frozen_no HB5.out.hA _
      have a3 : w5.cell? ⟨A, 3, none⟩ = some (.slice none 0 0) := (cells_at HB5.out.hA 3).trans rfl
      have f3 : w5.frozen? ⟨A, 3, none⟩ = false := frozen_no HB5.out.hA _
      have a4 : w5.cell? ⟨A, 4, none⟩ = some (.slice none 0 0) := (cells_at HB5.out.hA 4).trans rfl
      have f4 : w5.frozen? ⟨A, 4, none⟩ = false := frozen_no HB5.out.hA _
      have a5 : w5.cell? ⟨A, 5, none⟩ = some (.slice none 0 0) := (cells_at HB5.out.hA 5).trans rfl
      have f5 : w5.frozen? ⟨A, 5, none⟩ = false := frozen_no HB5.out.hA _
      have a6 : w5.cell? ⟨A, 6, none⟩ = some (.slice none 0 0) := (cells_at HB5.out.hA 6).trans rfl
      have f6 : w5.frozen? ⟨A, 6, none⟩ = false := frozen_no HB5.out.hA _
      have a7 : w5.cell? ⟨A, 7, none⟩ = some (.slice none 0 0) := (cells_at HB5.out.hA 7).trans rfl
      have f7 : w5.frozen? ⟨A, 7, none⟩ = false := frozen_no HB5.out.hA _
      rw [HWQ.out]
      clear hq hb5 hs HB5
      go_wp2
      refine bodyPost_ret (results_cell_row1 rfl _ _ A 50 _ (0, 0) _ rfl HAA.out Try.underlying50 rfl (by kernel_rfl)) rfl ?_
      exact HWO.out _ _ ⟨.inr ⟨HOKE.out, q, rfl, HWF.out⟩, HBF.out⟩
  · subst h1
    have HF : Hid (w2.heap[F]? = some (.cells #[.func (.func 48) #[] #[.pointer (some ⟨B, 0, none⟩), .pointer (some ⟨V, 0, none⟩), .pointer (some ⟨K, 0, none⟩)], .func (.func 50) #[] #[.pointer (some ⟨V, 0, none⟩), .pointer (some ⟨B, 0, none⟩), .pointer (some ⟨K, 0, none⟩)]] 65 (0, 0))) := hF
    have HMK : Hid (moveErr y k = if xl ≠ 0 then xl else xe) := HME.out
    rw [show (wrongF 2 B V K).length = 2 from rfl]
    clear hF HKD HKDE HME
    go_wp2_with fail
    go_loopw [13] (fun i wr => ∃ (j : Nat), i = .int .i64 j ∧ j ≤ 2 ∧ Hid ((0 < j → xl = 0) ∧ (1 < j → xe = 0)) ∧ Hid (MB w wr B2 A #[.int .i64 pt, .slice af lf cf, .slice ad ld cd, .slice as' ls cs, .slice (some ⟨G, 0, none⟩) nn cg, .slice (some ⟨L, 0, none⟩) nn nn, .slice (some ⟨E, 0, none⟩) nn nn, .slice (some ⟨D, 0, none⟩) nn nn]) ∧ Hid (wr.heap[F]? = some (.cells #[.func (.func 48) #[] #[.pointer (some ⟨B, 0, none⟩), .pointer (some ⟨V, 0, none⟩), .pointer (some ⟨K, 0, none⟩)], .func (.func 50) #[] #[.pointer (some ⟨V, 0, none⟩), .pointer (some ⟨B, 0, none⟩), .pointer (some ⟨K, 0, none⟩)]] 65 (0, 0))) ∧ Hid (Caught wr y p k B V K)) (fun i _ => 2 - (intOf i).toNat)
    case atStart => exact ⟨0, rfl, Nat.zero_le _, ⟨fun h => absurd h (by decide), fun h => absurd h (by decide)⟩, HB2, HF, HCA⟩
    case round =>
      clear HB2 HF HCA
      obtain ⟨j, rfl, hj, HE, HB, HF, HCA⟩ := hrel
      by_cases hj0 : j = 0
      · subst hj0
        have c0 : wr.cell? ⟨F, 0, none⟩ = some (.func (.func 48) #[] #[.pointer (some ⟨B, 0, none⟩), .pointer (some ⟨V, 0, none⟩), .pointer (some ⟨K, 0, none⟩)]) := (cells_at HF.out 0).trans rfl
        have HC1 := hide' (HCL.out (by decide) B V K wr HCA.out)
        go_wp2_with fail
        refine HC1.out.mono ?_
        rintro e w3 ⟨rfl, hb3⟩
        have HB3 := hide' (HB.out.more hb3)
        have HF3 := hide' ((hb3.block F (Array.getElem?_eq_some_iff.1 HF.out).1).trans HF.out)
        have HCA3 := hide' (HCA.out.below hb3)
        clear hb3 HC1 c0 HB HF HCA
        by_cases hx0 : xl = 0
        · have HX := hide' hx0
          have hx1 : (xl != 0) = false := by simp [hx0]
          clear hx0
          go_wp2
          go_roundw
          case rel => exact ⟨0 + 1, by go_num, by omega, ⟨fun _ => HX.out, fun h => absurd h (by decide)⟩, HB3, HF3, HCA3⟩
          case measure => simp [intOf]
        · have hx1 : (xl != 0) = true := by simp [hx0]
          have HERR : Hid (moveErr y k = xl) := by rw [HMK.out, if_pos hx0]; rfl
          have HX := hide' hx0
          have HAA : Hid (((((((((w3.setCell ⟨A, 0, none⟩ (.int .i64 0)).setCell ⟨A, 1, none⟩ (.slice none 0 0)).setCell ⟨A, 2, none⟩ (.slice none 0 0)).setCell ⟨A, 3, none⟩ (.slice none 0 0)).setCell ⟨A, 4, none⟩ (.slice none 0 0)).setCell ⟨A, 5, none⟩ (.slice none 0 0)).setCell ⟨A, 6, none⟩ (.slice none 0 0)).setCell ⟨A, 7, none⟩ (.slice none 0 0)).heap[A]? = some (.cells zero8 50 (0, 0))) := (set_any (set_any (set_any (set_any (set_any (set_any (set_any (set_any HB3.out.hA 0 _) 1 _) 2 _) 3 _) 4 _) 5 _) 6 _) 7 _).trans (congrArg (fun c => some (Obj.cells c 50 (0, 0))) (set8 _ _ _ _ _ _ _ _ _ _ _ _ _ _ _ _))
          have HBF : Hid (Below w.heap.size w ((((((((w3.setCell ⟨A, 0, none⟩ (.int .i64 0)).setCell ⟨A, 1, none⟩ (.slice none 0 0)).setCell ⟨A, 2, none⟩ (.slice none 0 0)).setCell ⟨A, 3, none⟩ (.slice none 0 0)).setCell ⟨A, 4, none⟩ (.slice none 0 0)).setCell ⟨A, 5, none⟩ (.slice none 0 0)).setCell ⟨A, 6, none⟩ (.slice none 0 0)).setCell ⟨A, 7, none⟩ (.slice none 0 0))) := ((((((((HB3.out.bel.setCell (p := ⟨A, 0, none⟩) HB3.out.sA _).setCell (p := ⟨A, 1, none⟩) HB3.out.sA _).setCell (p := ⟨A, 2, none⟩) HB3.out.sA _).setCell (p := ⟨A, 3, none⟩) HB3.out.sA _).setCell (p := ⟨A, 4, none⟩) HB3.out.sA _).setCell (p := ⟨A, 5, none⟩) HB3.out.sA _).setCell (p := ⟨A, 6, none⟩) HB3.out.sA _).setCell (p := ⟨A, 7, none⟩) HB3.out.sA _)
          have a0 : w3.cell? ⟨A, 0, none⟩ = some (.int .i64 0) := (cells_at HB3.out.hA 0).trans rfl
          have f0 : w3.frozen? ⟨A, 0, none⟩ = false := frozen_no HB3.out.hA _
          have a1 : w3.cell? ⟨A, 1, none⟩ = some (.slice none 0 0) := (cells_at HB3.out.hA 1).trans rfl
          have f1 : w3.frozen? ⟨A, 1, none⟩ = false := frozen_no HB3.out.hA _
          have a2 : w3.cell? ⟨A, 2, none⟩ = some (.slice none 0 0) := (cells_at HB3.out.hA 2).trans rfl
          have f2 : w3.frozen? ⟨A, 2, none⟩ = false := frozen_no HB3.out.hA _
          have a3 : w3.cell? ⟨A, 3, none⟩ = some (.slice none 0 0) := (cells_at HB3.out.hA 3).trans rfl
          have f3 : w3.frozen? ⟨A, 3, none⟩ = false := frozen_no HB3.out.hA _
          have a4 : w3.cell? ⟨A, 4, none⟩ = some (.slice none 0 0) := (cells_at HB3.out.hA 4).trans rfl
          have f4 : w3.frozen? ⟨A, 4, none⟩ = false := frozen_no HB3.out.hA _
          have a5 : w3.cell? ⟨A, 5, none⟩ = some (.slice none 0 0) := (cells_at HB3.out.hA 5).trans rfl
          have f5 : w3.frozen? ⟨A, 5, none⟩ = false := frozen_no HB3.out.hA _
          have a6 : w3.cell? ⟨A, 6, none⟩ = some (.slice none 0 0) := (cells_at HB3.out.hA 6).trans rfl
          have f6 : w3.frozen? ⟨A, 6, none⟩ = false := frozen_no HB3.out.hA _
          have a7 : w3.cell? ⟨A, 7, none⟩ = some (.slice none 0 0) := (cells_at HB3.out.hA 7).trans rfl
          have f7 : w3.frozen? ⟨A, 7, none⟩ = false := frozen_no HB3.out.hA _
          go_wp2
          refine bodyPost_ret (results_cell_row1 rfl _ _ A 50 _ (0, 0) _ rfl HAA.out Try.underlying50 rfl (by kernel_rfl)) rfl ?_
          exact HWO.out _ _ ⟨.inl ⟨by rw [HERR.out]; exact HX.out, by rw [HERR.out]; rfl⟩, HBF.out⟩
      by_cases hj1 : j = 1
      · subst hj1
        have c0 : wr.cell? ⟨F, 1, none⟩ = some (.func (.func 50) #[] #[.pointer (some ⟨V, 0, none⟩), .pointer (some ⟨B, 0, none⟩), .pointer (some ⟨K, 0, none⟩)]) := (cells_at HF.out 1).trans rfl
        have HC1 := hide' (HCE.out B V K wr HCA.out)
        go_wp2_with fail
        refine HC1.out.mono ?_
        rintro e w3 ⟨rfl, hb3⟩
        have HB3 := hide' (HB.out.more hb3)
        have HF3 := hide' ((hb3.block F (Array.getElem?_eq_some_iff.1 HF.out).1).trans HF.out)
        have HCA3 := hide' (HCA.out.below hb3)
        clear hb3 HC1 c0 HB HF HCA
        by_cases hx0 : xe = 0
        · have HX := hide' hx0
          have hx1 : (xe != 0) = false := by simp [hx0]
          clear hx0
          go_wp2
          go_roundw
          case rel => exact ⟨1 + 1, by go_num, by omega, ⟨fun _ => HE.out.1 (by decide), fun _ => HX.out⟩, HB3, HF3, HCA3⟩
          case measure => simp [intOf]
        · have hx1 : (xe != 0) = true := by simp [hx0]
          have HERR : Hid (moveErr y k = xe) := by rw [HMK.out, if_neg (by rw [HE.out.1 (by decide)]; simp)]; rfl
          have HX := hide' hx0
          have HAA : Hid (((((((((w3.setCell ⟨A, 0, none⟩ (.int .i64 0)).setCell ⟨A, 1, none⟩ (.slice none 0 0)).setCell ⟨A, 2, none⟩ (.slice none 0 0)).setCell ⟨A, 3, none⟩ (.slice none 0 0)).setCell ⟨A, 4, none⟩ (.slice none 0 0)).setCell ⟨A, 5, none⟩ (.slice none 0 0)).setCell ⟨A, 6, none⟩ (.slice none 0 0)).setCell ⟨A, 7, none⟩ (.slice none 0 0)).heap[A]? = some (.cells zero8 50 (0, 0))) := (set_any (set_any (set_any (set_any (set_any (set_any (set_any (set_any HB3.out.hA 0 _) 1 _) 2 _) 3 _) 4 _) 5 _) 6 _) 7 _).trans (congrArg (fun c => some (Obj.cells c 50 (0, 0))) (set8 _ _ _ _ _ _ _ _ _ _ _ _ _ _ _ _))
          have HBF : Hid (Below w.heap.size w ((((((((w3.setCell ⟨A, 0, none⟩ (.int .i64 0)).setCell ⟨A, 1, none⟩ (.slice none 0 0)).setCell ⟨A, 2, none⟩ (.slice none 0 0)).setCell ⟨A, 3, none⟩ (.slice none 0 0)).setCell ⟨A, 4, none⟩ (.slice none 0 0)).setCell ⟨A, 5, none⟩ (.slice none 0 0)).setCell ⟨A, 6, none⟩ (.slice none 0 0)).setCell ⟨A, 7, none⟩ (.slice none 0 0))) := ((((((((HB3.out.bel.setCell (p := ⟨A, 0, none⟩) HB3.out.sA _).setCell (p := ⟨A, 1, none⟩) HB3.out.sA _).setCell (p := ⟨A, 2, none⟩) HB3.out.sA _).setCell (p := ⟨A, 3, none⟩) HB3.out.sA _).setCell (p := ⟨A, 4, none⟩) HB3.out.sA _).setCell (p := ⟨A, 5, none⟩) HB3.out.sA _).setCell (p := ⟨A, 6, none⟩) HB3.out.sA _).setCell (p := ⟨A, 7, none⟩) HB3.out.sA _)
          have a0 : w3.cell? ⟨A, 0, none⟩ = some (.int .i64 0) := (cells_at HB3.out.hA 0).trans rfl
          have f0 : w3.frozen? ⟨A, 0, none⟩ = false := frozen_no HB3.out.hA _
          have a1 : w3.cell? ⟨A, 1, none⟩ = some (.slice none 0 0) := (cells_at HB3.out.hA 1).trans rfl
          have f1 : w3.frozen? ⟨A, 1, none⟩ = false := frozen_no HB3.out.hA _
          have a2 : w3.cell? ⟨A, 2, none⟩ = some (.slice none 0 0) := (cells_at HB3.out.hA 2).trans rfl
          have f2 : w3.frozen? ⟨A, 2, none⟩ = false := frozen_no HB3.out.hA _
          have a3 : w3.cell? ⟨A, 3, none⟩ = some (.slice none 0 0) := (cells_at HB3.out.hA 3).trans rfl
          have f3 : w3.frozen? ⟨A, 3, none⟩ = false := frozen_no HB3.out.hA _
          have a4 : w3.cell? ⟨A, 4, none⟩ = some (.slice none 0 0) := (cells_at HB3.out.hA 4).trans rfl
          have f4 : w3.frozen? ⟨A, 4, none⟩ = false := frozen_no HB3.out.hA _
          have a5 : w3.cell? ⟨A, 5, none⟩ = some (.slice none 0 0) := (cells_at HB3.out.hA 5).trans rfl
          have f5 : w3.frozen? ⟨A, 5, none⟩ = false := frozen_no HB3.out.hA _
          have a6 : w3.cell? ⟨A, 6, none⟩ = some (.slice none 0 0) := (cells_at HB3.out.hA 6).trans rfl
          have f6 : w3.frozen? ⟨A, 6, none⟩ = false := frozen_no HB3.out.hA _
          have a7 : w3.cell? ⟨A, 7, none⟩ = some (.slice none 0 0) := (cells_at HB3.out.hA 7).trans rfl
          have f7 : w3.frozen? ⟨A, 7, none⟩ = false := frozen_no HB3.out.hA _
          go_wp2
          refine bodyPost_ret (results_cell_row1 rfl _ _ A 50 _ (0, 0) _ rfl HAA.out Try.underlying50 rfl (by kernel_rfl)) rfl ?_
          exact HWO.out _ _ ⟨.inl ⟨by rw [HERR.out]; exact HX.out, by rw [HERR.out]; rfl⟩, HBF.out⟩
      have hje : j = 2 := by omega
      subst hje
      have HOKE : Hid (moveErr y k = 0) := by rw [HMK.out, if_neg (by rw [HE.out.1 (by decide)]; simp)]; exact HE.out.2 (by decide)
      have HTU1 := hide' (HTU.out wr HB.out.bel)
      have b0 : wr.cell? ⟨B2, 0, none⟩ = some (.int .i64 pt) := (cells_at HB.out.hB 0).trans rfl
      have b1 : wr.cell? ⟨B2, 1, none⟩ = some (.slice af lf cf) := (cells_at HB.out.hB 1).trans rfl
      have b2 : wr.cell? ⟨B2, 2, none⟩ = some (.slice ad ld cd) := (cells_at HB.out.hB 2).trans rfl
      have b3 : wr.cell? ⟨B2, 3, none⟩ = some (.slice as' ls cs) := (cells_at HB.out.hB 3).trans rfl
      have b4 : wr.cell? ⟨B2, 4, none⟩ = some (.slice (some ⟨G, 0, none⟩) nn cg) := (cells_at HB.out.hB 4).trans rfl
      have b5 : wr.cell? ⟨B2, 5, none⟩ = some (.slice (some ⟨L, 0, none⟩) nn nn) := (cells_at HB.out.hB 5).trans rfl
      have b6 : wr.cell? ⟨B2, 6, none⟩ = some (.slice (some ⟨E, 0, none⟩) nn nn) := (cells_at HB.out.hB 6).trans rfl
      have b7 : wr.cell? ⟨B2, 7, none⟩ = some (.slice (some ⟨D, 0, none⟩) nn nn) := (cells_at HB.out.hB 7).trans rfl
      go_wp2_with fail
      refine HTU1.out.mono ?_
      rintro e w5 ⟨q, rfl, hq, hb5⟩
      have HB5 := hide' (HB.out.more hb5)
      clear b0 b1 b2 b3 b4 b5 b6 b7 HTU1
      rw [workV_is]
      have HWQ : Hid (workC (y.turn k) q = #[.int .i64 (y.turn k).points, .slice q.af (y.turn k).fed.length q.cf, .slice q.ad (y.turn k).drawn.length q.cd, .slice q.as' (y.turn k).devs.length q.cs, .slice (some ⟨q.G, 0, none⟩) (y.turn k).n q.cg, .slice (some ⟨q.L, 0, none⟩) (y.turn k).n (y.turn k).n, .slice (some ⟨q.E, 0, none⟩) (y.turn k).n (y.turn k).n, .slice (some ⟨q.D, 0, none⟩) (y.turn k).n (y.turn k).n]) := rfl
      have hs : ∀ j, j ≠ A → ((((((((w5.setCell ⟨A, 0, none⟩ (.int .i64 (y.turn k).points)).setCell ⟨A, 1, none⟩ (.slice q.af (y.turn k).fed.length q.cf)).setCell ⟨A, 2, none⟩ (.slice q.ad (y.turn k).drawn.length q.cd)).setCell ⟨A, 3, none⟩ (.slice q.as' (y.turn k).devs.length q.cs)).setCell ⟨A, 4, none⟩ (.slice (some ⟨q.G, 0, none⟩) (y.turn k).n q.cg)).setCell ⟨A, 5, none⟩ (.slice (some ⟨q.L, 0, none⟩) (y.turn k).n (y.turn k).n)).setCell ⟨A, 6, none⟩ (.slice (some ⟨q.E, 0, none⟩) (y.turn k).n (y.turn k).n)).setCell ⟨A, 7, none⟩ (.slice (some ⟨q.D, 0, none⟩) (y.turn k).n (y.turn k).n)).heap[j]? = w5.heap[j]? := fun j hj => by
        rw [Below.heap_setCell _ _ _ j hj, Below.heap_setCell _ _ _ j hj, Below.heap_setCell _ _ _ j hj, Below.heap_setCell _ _ _ j hj, Below.heap_setCell _ _ _ j hj, Below.heap_setCell _ _ _ j hj, Below.heap_setCell _ _ _ j hj, Below.heap_setCell _ _ _ j hj]
      have HBF : Hid (Below w.heap.size w ((((((((w5.setCell ⟨A, 0, none⟩ (.int .i64 (y.turn k).points)).setCell ⟨A, 1, none⟩ (.slice q.af (y.turn k).fed.length q.cf)).setCell ⟨A, 2, none⟩ (.slice q.ad (y.turn k).drawn.length q.cd)).setCell ⟨A, 3, none⟩ (.slice q.as' (y.turn k).devs.length q.cs)).setCell ⟨A, 4, none⟩ (.slice (some ⟨q.G, 0, none⟩) (y.turn k).n q.cg)).setCell ⟨A, 5, none⟩ (.slice (some ⟨q.L, 0, none⟩) (y.turn k).n (y.turn k).n)).setCell ⟨A, 6, none⟩ (.slice (some ⟨q.E, 0, none⟩) (y.turn k).n (y.turn k).n)).setCell ⟨A, 7, none⟩ (.slice (some ⟨q.D, 0, none⟩) (y.turn k).n (y.turn k).n))) := ((((((((HB5.out.bel.setCell (p := ⟨A, 0, none⟩) HB5.out.sA _).setCell (p := ⟨A, 1, none⟩) HB5.out.sA _).setCell (p := ⟨A, 2, none⟩) HB5.out.sA _).setCell (p := ⟨A, 3, none⟩) HB5.out.sA _).setCell (p := ⟨A, 4, none⟩) HB5.out.sA _).setCell (p := ⟨A, 5, none⟩) HB5.out.sA _).setCell (p := ⟨A, 6, none⟩) HB5.out.sA _).setCell (p := ⟨A, 7, none⟩) HB5.out.sA _)
      have HAA : Hid (((((((((w5.setCell ⟨A, 0, none⟩ (.int .i64 (y.turn k).points)).setCell ⟨A, 1, none⟩ (.slice q.af (y.turn k).fed.length q.cf)).setCell ⟨A, 2, none⟩ (.slice q.ad (y.turn k).drawn.length q.cd)).setCell ⟨A, 3, none⟩ (.slice q.as' (y.turn k).devs.length q.cs)).setCell ⟨A, 4, none⟩ (.slice (some ⟨q.G, 0, none⟩) (y.turn k).n q.cg)).setCell ⟨A, 5, none⟩ (.slice (some ⟨q.L, 0, none⟩) (y.turn k).n (y.turn k).n)).setCell ⟨A, 6, none⟩ (.slice (some ⟨q.E, 0, none⟩) (y.turn k).n (y.turn k).n)).setCell ⟨A, 7, none⟩ (.slice (some ⟨q.D, 0, none⟩) (y.turn k).n (y.turn k).n)).heap[A]? = some (.cells #[.int .i64 (y.turn k).points, .slice q.af (y.turn k).fed.length q.cf, .slice q.ad (y.turn k).drawn.length q.cd, .slice q.as' (y.turn k).devs.length q.cs, .slice (some ⟨q.G, 0, none⟩) (y.turn k).n q.cg, .slice (some ⟨q.L, 0, none⟩) (y.turn k).n (y.turn k).n, .slice (some ⟨q.E, 0, none⟩) (y.turn k).n (y.turn k).n, .slice (some ⟨q.D, 0, none⟩) (y.turn k).n (y.turn k).n] 50 (0, 0))) := (set_any (set_any (set_any (set_any (set_any (set_any (set_any (set_any HB5.out.hA 0 _) 1 _) 2 _) 3 _) 4 _) 5 _) 6 _) 7 _).trans (congrArg (fun c => some (Obj.cells c 50 (0, 0))) (set8 _ _ _ _ _ _ _ _ _ _ _ _ _ _ _ _))
      have HWF : Hid (∀ w2, KeepX ((((((((w5.setCell ⟨A, 0, none⟩ (.int .i64 (y.turn k).points)).setCell ⟨A, 1, none⟩ (.slice q.af (y.turn k).fed.length q.cf)).setCell ⟨A, 2, none⟩ (.slice q.ad (y.turn k).drawn.length q.cd)).setCell ⟨A, 3, none⟩ (.slice q.as' (y.turn k).devs.length q.cs)).setCell ⟨A, 4, none⟩ (.slice (some ⟨q.G, 0, none⟩) (y.turn k).n q.cg)).setCell ⟨A, 5, none⟩ (.slice (some ⟨q.L, 0, none⟩) (y.turn k).n (y.turn k).n)).setCell ⟨A, 6, none⟩ (.slice (some ⟨q.E, 0, none⟩) (y.turn k).n (y.turn k).n)).setCell ⟨A, 7, none⟩ (.slice (some ⟨q.D, 0, none⟩) (y.turn k).n (y.turn k).n)) w2 → RowAt w2 (.slice p.af y.fed.length p.cf) y.fed.length 1 (ints y.fed) → RowAt w2 (.slice p.ad y.drawn.length p.cd) y.drawn.length 1 (ints y.drawn) → WorkAt w2 (y.turn k) q) := fun w2 hk2 => hq w2 (KeepX.trans (fun j cur e1 fz hj he => hs j (fun e => by subst e; rw [HB5.out.hA] at hj; cases hj; simp at he)) hk2)
      have a0 : w5.cell? ⟨A, 0, none⟩ = some (.int .i64 0) := (cells_at HB5.out.hA 0).trans rfl
      have f0 : w5.frozen? ⟨A, 0, none⟩ = false := frozen_no HB5.out.hA _
      have a1 : w5.cell? ⟨A, 1, none⟩ = some (.slice none 0 0) := (cells_at HB5.out.hA 1).trans rfl
      have f1 : w5.frozen? ⟨A, 1, none⟩ = false := frozen_no HB5.out.hA _
      have a2 : w5.cell? ⟨A, 2, none⟩ = some (.slice none 0 0) := (cells_at HB5.out.hA 2).trans rfl
      have f2 : w5.frozen? ⟨A, 2, none⟩ = false := frozen_no HB5.out.hA _
      have a3 : w5.cell? ⟨A, 3, none⟩ = some (.slice none 0 0) := (cells_at HB5.out.hA 3).trans rfl
      have f3 : w5.frozen? ⟨A, 3, none⟩ = false := frozen_no HB5.out.hA _
      have a4 : w5.cell? ⟨A, 4, none⟩ = some (.slice none 0 0) := (cells_at HB5.out.hA 4).trans rfl
      have f4 : w5.frozen? ⟨A, 4, none⟩ = false := frozen_no HB5.out.hA _
      have a5 : w5.cell? ⟨A, 5, none⟩ = some (.slice none 0 0) := (cells_at HB5.out.hA 5).trans rfl
      have f5 : w5.frozen? ⟨A, 5, none⟩ = false := frozen_no HB5.out.hA _
      have a6 : w5.cell? ⟨A, 6, none⟩ = some (.slice none 0 0) := (cells_at HB5.out.hA 6).trans rfl
      have f6 : w5.frozen? ⟨A, 6, none⟩ = false := frozen_no HB5.out.hA _
      have a7 : w5.cell? ⟨A, 7, none⟩ = some (.slice none 0 0) := (cells_at HB5.out.hA 7).trans rfl
      have f7 : w5.frozen? ⟨A, 7, none⟩ = false := frozen_no HB5.out.hA _
      rw [HWQ.out]
      clear hq hb5 hs HB5
      go_wp2
      refine bodyPost_ret (results_cell_row1 rfl _ _ A 50 _ (0, 0) _ rfl HAA.out Try.underlying50 rfl (by kernel_rfl)) rfl ?_
      exact HWO.out _ _ ⟨.inr ⟨HOKE.out, q, rfl, HWF.out⟩, HBF.out⟩
  · subst h1
    have HF : Hid (w2.heap[F]? = some (.cells #[.func (.func 51) #[] #[.pointer (some ⟨V, 0, none⟩), .pointer (some ⟨B, 0, none⟩)]] 65 (0, 0))) := hF
    have HMK : Hid (moveErr y k = xv) := HME.out
    rw [show (wrongF 3 B V K).length = 1 from rfl]
    clear hF HKD HKDE HME
    go_wp2_with fail
    go_loopw [13] (fun i wr => ∃ (j : Nat), i = .int .i64 j ∧ j ≤ 1 ∧ Hid (0 < j → xv = 0) ∧ Hid (MB w wr B2 A #[.int .i64 pt, .slice af lf cf, .slice ad ld cd, .slice as' ls cs, .slice (some ⟨G, 0, none⟩) nn cg, .slice (some ⟨L, 0, none⟩) nn nn, .slice (some ⟨E, 0, none⟩) nn nn, .slice (some ⟨D, 0, none⟩) nn nn]) ∧ Hid (wr.heap[F]? = some (.cells #[.func (.func 51) #[] #[.pointer (some ⟨V, 0, none⟩), .pointer (some ⟨B, 0, none⟩)]] 65 (0, 0))) ∧ Hid (Caught wr y p k B V K)) (fun i _ => 1 - (intOf i).toNat)
    case atStart => exact ⟨0, rfl, Nat.zero_le _, fun h => absurd h (by decide), HB2, HF, HCA⟩
    case round =>
      clear HB2 HF HCA
      obtain ⟨j, rfl, hj, HE, HB, HF, HCA⟩ := hrel
      by_cases hj0 : j = 0
      · subst hj0
        have c0 : wr.cell? ⟨F, 0, none⟩ = some (.func (.func 51) #[] #[.pointer (some ⟨V, 0, none⟩), .pointer (some ⟨B, 0, none⟩)]) := (cells_at HF.out 0).trans rfl
        have HC1 := hide' (HCV.out B V K wr HCA.out)
        go_wp2_with fail
        refine HC1.out.mono ?_
        rintro e w3 ⟨rfl, hb3⟩
        have HB3 := hide' (HB.out.more hb3)
        have HF3 := hide' ((hb3.block F (Array.getElem?_eq_some_iff.1 HF.out).1).trans HF.out)
        have HCA3 := hide' (HCA.out.below hb3)
        clear hb3 HC1 c0 HB HF HCA
        by_cases hx0 : xv = 0
        · have HX := hide' hx0
          have hx1 : (xv != 0) = false := by simp [hx0]
          clear hx0
          go_wp2
          go_roundw
          case rel => exact ⟨0 + 1, by go_num, by omega, fun _ => HX.out, HB3, HF3, HCA3⟩
          case measure => simp [intOf]
        · have hx1 : (xv != 0) = true := by simp [hx0]
          have HERR : Hid (moveErr y k = xv) := by exact HMK.out
          have HX := hide' hx0
          have HAA : Hid (((((((((w3.setCell ⟨A, 0, none⟩ (.int .i64 0)).setCell ⟨A, 1, none⟩ (.slice none 0 0)).setCell ⟨A, 2, none⟩ (.slice none 0 0)).setCell ⟨A, 3, none⟩ (.slice none 0 0)).setCell ⟨A, 4, none⟩ (.slice none 0 0)).setCell ⟨A, 5, none⟩ (.slice none 0 0)).setCell ⟨A, 6, none⟩ (.slice none 0 0)).setCell ⟨A, 7, none⟩ (.slice none 0 0)).heap[A]? = some (.cells zero8 50 (0, 0))) := (set_any (set_any (set_any (set_any (set_any (set_any (set_any (set_any HB3.out.hA 0 _) 1 _) 2 _) 3 _) 4 _) 5 _) 6 _) 7 _).trans (congrArg (fun c => some (Obj.cells c 50 (0, 0))) (set8 _ _ _ _ _ _ _ _ _ _ _ _ _ _ _ _))
          have HBF : Hid (Below w.heap.size w ((((((((w3.setCell ⟨A, 0, none⟩ (.int .i64 0)).setCell ⟨A, 1, none⟩ (.slice none 0 0)).setCell ⟨A, 2, none⟩ (.slice none 0 0)).setCell ⟨A, 3, none⟩ (.slice none 0 0)).setCell ⟨A, 4, none⟩ (.slice none 0 0)).setCell ⟨A, 5, none⟩ (.slice none 0 0)).setCell ⟨A, 6, none⟩ (.slice none 0 0)).setCell ⟨A, 7, none⟩ (.slice none 0 0))) := ((((((((HB3.out.bel.setCell (p := ⟨A, 0, none⟩) HB3.out.sA _).setCell (p := ⟨A, 1, none⟩) HB3.out.sA _).setCell (p := ⟨A, 2, none⟩) HB3.out.sA _).setCell (p := ⟨A, 3, none⟩) HB3.out.sA _).setCell (p := ⟨A, 4, none⟩) HB3.out.sA _).setCell (p := ⟨A, 5, none⟩) HB3.out.sA _).setCell (p := ⟨A, 6, none⟩) HB3.out.sA _).setCell (p := ⟨A, 7, none⟩) HB3.out.sA _)
          have a0 : w3.cell? ⟨A, 0, none⟩ = some (.int .i64 0) := (cells_at HB3.out.hA 0).trans rfl
          have f0 : w3.frozen? ⟨A, 0, none⟩ = false := frozen_no HB3.out.hA _
          have a1 : w3.cell? ⟨A, 1, none⟩ = some (.slice none 0 0) := (cells_at HB3.out.hA 1).trans rfl
          have f1 : w3.frozen? ⟨A, 1, none⟩ = false := frozen_no HB3.out.hA _
          have a2 : w3.cell? ⟨A, 2, none⟩ = some (.slice none 0 0) := (cells_at HB3.out.hA 2).trans rfl
          have f2 : w3.frozen? ⟨A, 2, none⟩ = false := frozen_no HB3.out.hA _
          have a3 : w3.cell? ⟨A, 3, none⟩ = some (.slice none 0 0) := (cells_at HB3.out.hA 3).trans rfl
          have f3 : w3.frozen? ⟨A, 3, none⟩ = false := frozen_no HB3.out.hA _
          have a4 : w3.cell? ⟨A, 4, none⟩ = some (.slice none 0 0) := (cells_at HB3.out.hA 4).trans rfl
          have f4 : w3.frozen? ⟨A, 4, none⟩ = false := frozen_no HB3.out.hA _
          have a5 : w3.cell? ⟨A, 5, none⟩ = some (.slice none 0 0) := (cells_at HB3.out.hA 5).trans rfl
          have f5 : w3.frozen? ⟨A, 5, none⟩ = false := frozen_no HB3.out.hA _
          have a6 : w3.cell? ⟨A, 6, none⟩ = some (.slice none 0 0) := (cells_at HB3.out.hA 6).trans rfl
          have f6 : w3.frozen? ⟨A, 6, none⟩ = false := frozen_no HB3.out.hA _
          have a7 : w3.cell? ⟨A, 7, none⟩ = some (.slice none 0 0) := (cells_at HB3.out.hA 7).trans rfl
          have f7 : w3.frozen? ⟨A, 7, none⟩ = false := frozen_no HB3.out.hA _
          go_wp2
          refine bodyPost_ret (results_cell_row1 rfl _ _ A 50 _ (0, 0) _ rfl HAA.out Try.underlying50 rfl (by kernel_rfl)) rfl ?_
          exact HWO.out _ _ ⟨.inl ⟨by rw [HERR.out]; exact HX.out, by rw [HERR.out]; rfl⟩, HBF.out⟩
      have hje : j = 1 := by omega
      subst hje
      have HOKE : Hid (moveErr y k = 0) := by rw [HMK.out]; exact HE.out (by decide)
      have HTU1 := hide' (HTU.out wr HB.out.bel)
      have b0 : wr.cell? ⟨B2, 0, none⟩ = some (.int .i64 pt) := (cells_at HB.out.hB 0).trans rfl
      have b1 : wr.cell? ⟨B2, 1, none⟩ = some (.slice af lf cf) := (cells_at HB.out.hB 1).trans rfl
      have b2 : wr.cell? ⟨B2, 2, none⟩ = some (.slice ad ld cd) := (cells_at HB.out.hB 2).trans rfl
      have b3 : wr.cell? ⟨B2, 3, none⟩ = some (.slice as' ls cs) := (cells_at HB.out.hB 3).trans rfl
      have b4 : wr.cell? ⟨B2, 4, none⟩ = some (.slice (some ⟨G, 0, none⟩) nn cg) := (cells_at HB.out.hB 4).trans rfl
      have b5 : wr.cell? ⟨B2, 5, none⟩ = some (.slice (some ⟨L, 0, none⟩) nn nn) := (cells_at HB.out.hB 5).trans rfl
      have b6 : wr.cell? ⟨B2, 6, none⟩ = some (.slice (some ⟨E, 0, none⟩) nn nn) := (cells_at HB.out.hB 6).trans rfl
      have b7 : wr.cell? ⟨B2, 7, none⟩ = some (.slice (some ⟨D, 0, none⟩) nn nn) := (cells_at HB.out.hB 7).trans rfl
      go_wp2_with fail
      refine HTU1.out.mono ?_
      rintro e w5 ⟨q, rfl, hq, hb5⟩
      have HB5 := hide' (HB.out.more hb5)
      clear b0 b1 b2 b3 b4 b5 b6 b7 HTU1
      rw [workV_is]
      have HWQ : Hid (workC (y.turn k) q = #[.int .i64 (y.turn k).points, .slice q.af (y.turn k).fed.length q.cf, .slice q.ad (y.turn k).drawn.length q.cd, .slice q.as' (y.turn k).devs.length q.cs, .slice (some ⟨q.G, 0, none⟩) (y.turn k).n q.cg, .slice (some ⟨q.L, 0, none⟩) (y.turn k).n (y.turn k).n, .slice (some ⟨q.E, 0, none⟩) (y.turn k).n (y.turn k).n, .slice (some ⟨q.D, 0, none⟩) (y.turn k).n (y.turn k).n]) := rfl
      have hs : ∀ j, j ≠ A → ((((((((w5.setCell ⟨A, 0, none⟩ (.int .i64 (y.turn k).points)).setCell ⟨A, 1, none⟩ (.slice q.af (y.turn k).fed.length q.cf)).setCell ⟨A, 2, none⟩ (.slice q.ad (y.turn k).drawn.length q.cd)).setCell ⟨A, 3, none⟩ (.slice q.as' (y.turn k).devs.length q.cs)).setCell ⟨A, 4, none⟩ (.slice (some ⟨q.G, 0, none⟩) (y.turn k).n q.cg)).setCell ⟨A, 5, none⟩ (.slice (some ⟨q.L, 0, none⟩) (y.turn k).n (y.turn k).n)).setCell ⟨A, 6, none⟩ (.slice (some ⟨q.E, 0, none⟩) (y.turn k).n (y.turn k).n)).setCell ⟨A, 7, none⟩ (.slice (some ⟨q.D, 0, none⟩) (y.turn k).n (y.turn k).n)).heap[j]? = w5.heap[j]? := fun j hj => by
        rw [Below.heap_setCell _ _ _ j hj, Below.heap_setCell _ _ _ j hj, Below.heap_setCell _ _ _ j hj, Below.heap_setCell _ _ _ j hj, Below.heap_setCell _ _ _ j hj, Below.heap_setCell _ _ _ j hj, Below.heap_setCell _ _ _ j hj, Below.heap_setCell _ _ _ j hj]
      have HBF : Hid (Below w.heap.size w ((((((((w5.setCell ⟨A, 0, none⟩ (.int .i64 (y.turn k).points)).setCell ⟨A, 1, none⟩ (.slice q.af (y.turn k).fed.length q.cf)).setCell ⟨A, 2, none⟩ (.slice q.ad (y.turn k).drawn.length q.cd)).setCell ⟨A, 3, none⟩ (.slice q.as' (y.turn k).devs.length q.cs)).setCell ⟨A, 4, none⟩ (.slice (some ⟨q.G, 0, none⟩) (y.turn k).n q.cg)).setCell ⟨A, 5, none⟩ (.slice (some ⟨q.L, 0, none⟩) (y.turn k).n (y.turn k).n)).setCell ⟨A, 6, none⟩ (.slice (some ⟨q.E, 0, none⟩) (y.turn k).n (y.turn k).n)).setCell ⟨A, 7, none⟩ (.slice (some ⟨q.D, 0, none⟩) (y.turn k).n (y.turn k).n))) := ((((((((HB5.out.bel.setCell (p := ⟨A, 0, none⟩) HB5.out.sA _).setCell (p := ⟨A, 1, none⟩) HB5.out.sA _).setCell (p := ⟨A, 2, none⟩) HB5.out.sA _).setCell (p := ⟨A, 3, none⟩) HB5.out.sA _).setCell (p := ⟨A, 4, none⟩) HB5.out.sA _).setCell (p := ⟨A, 5, none⟩) HB5.out.sA _).setCell (p := ⟨A, 6, none⟩) HB5.out.sA _).setCell (p := ⟨A, 7, none⟩) HB5.out.sA _)
      have HAA : Hid (((((((((w5.setCell ⟨A, 0, none⟩ (.int .i64 (y.turn k).points)).setCell ⟨A, 1, none⟩ (.slice q.af (y.turn k).fed.length q.cf)).setCell ⟨A, 2, none⟩ (.slice q.ad (y.turn k).drawn.length q.cd)).setCell ⟨A, 3, none⟩ (.slice q.as' (y.turn k).devs.length q.cs)).setCell ⟨A, 4, none⟩ (.slice (some ⟨q.G, 0, none⟩) (y.turn k).n q.cg)).setCell ⟨A, 5, none⟩ (.slice (some ⟨q.L, 0, none⟩) (y.turn k).n (y.turn k).n)).setCell ⟨A, 6, none⟩ (.slice (some ⟨q.E, 0, none⟩) (y.turn k).n (y.turn k).n)).setCell ⟨A, 7, none⟩ (.slice (some ⟨q.D, 0, none⟩) (y.turn k).n (y.turn k).n)).heap[A]? = some (.cells #[.int .i64 (y.turn k).points, .slice q.af (y.turn k).fed.length q.cf, .slice q.ad (y.turn k).drawn.length q.cd, .slice q.as' (y.turn k).devs.length q.cs, .slice (some ⟨q.G, 0, none⟩) (y.turn k).n q.cg, .slice (some ⟨q.L, 0, none⟩) (y.turn k).n (y.turn k).n, .slice (some ⟨q.E, 0, none⟩) (y.turn k).n (y.turn k).n, .slice (some ⟨q.D, 0, none⟩) (y.turn k).n (y.turn k).n] 50 (0, 0))) := (set_any (set_any (set_any (set_any (set_any (set_any (set_any (set_any HB5.out.hA 0 _) 1 _) 2 _) 3 _) 4 _) 5 _) 6 _) 7 _).trans (congrArg (fun c => some (Obj.cells c 50 (0, 0))) (set8 _ _ _ _ _ _ _ _ _ _ _ _ _ _ _ _))
      have HWF : Hid (∀ w2, KeepX ((((((((w5.setCell ⟨A, 0, none⟩ (.int .i64 (y.turn k).points)).setCell ⟨A, 1, none⟩ (.slice q.af (y.turn k).fed.length q.cf)).setCell ⟨A, 2, none⟩ (.slice q.ad (y.turn k).drawn.length q.cd)).setCell ⟨A, 3, none⟩ (.slice q.as' (y.turn k).devs.length q.cs)).setCell ⟨A, 4, none⟩ (.slice (some ⟨q.G, 0, none⟩) (y.turn k).n q.cg)).setCell ⟨A, 5, none⟩ (.slice (some ⟨q.L, 0, none⟩) (y.turn k).n (y.turn k).n)).setCell ⟨A, 6, none⟩ (.slice (some ⟨q.E, 0, none⟩) (y.turn k).n (y.turn k).n)).setCell ⟨A, 7, none⟩ (.slice (some ⟨q.D, 0, none⟩) (y.turn k).n (y.turn k).n)) w2 → RowAt w2 (.slice p.af y.fed.length p.cf) y.fed.length 1 (ints y.fed) → RowAt w2 (.slice p.ad y.drawn.length p.cd) y.drawn.length 1 (ints y.drawn) → WorkAt w2 (y.turn k) q) := fun w2 hk2 => hq w2 (KeepX.trans (fun j cur e1 fz hj he => hs j (fun e => by subst e; rw [HB5.out.hA] at hj; cases hj; simp at he)) hk2)
      have a0 : w5.cell? ⟨A, 0, none⟩ = some (.int .i64 0) := (cells_at HB5.out.hA 0).trans rfl
      have f0 : w5.frozen? ⟨A, 0, none⟩ = false := frozen_no HB5.out.hA _
      have a1 : w5.cell? ⟨A, 1, none⟩ = some (.slice none 0 0) := (cells_at HB5.out.hA 1).trans rfl
      have f1 : w5.frozen? ⟨A, 1, none⟩ = false := frozen_no HB5.out.hA _
      have a2 : w5.cell? ⟨A, 2, none⟩ = some (.slice none 0 0) := (cells_at HB5.out.hA 2).trans rfl
      have f2 : w5.frozen? ⟨A, 2, none⟩ = false := frozen_no HB5.out.hA _
      have a3 : w5.cell? ⟨A, 3, none⟩ = some (.slice none 0 0) := (cells_at HB5.out.hA 3).trans rfl
      have f3 : w5.frozen? ⟨A, 3, none⟩ = false := frozen_no HB5.out.hA _
      have a4 : w5.cell? ⟨A, 4, none⟩ = some (.slice none 0 0) := (cells_at HB5.out.hA 4).trans rfl
      have f4 : w5.frozen? ⟨A, 4, none⟩ = false := frozen_no HB5.out.hA _
      have a5 : w5.cell? ⟨A, 5, none⟩ = some (.slice none 0 0) := (cells_at HB5.out.hA 5).trans rfl
      have f5 : w5.frozen? ⟨A, 5, none⟩ = false := frozen_no HB5.out.hA _
      have a6 : w5.cell? ⟨A, 6, none⟩ = some (.slice none 0 0) := (cells_at HB5.out.hA 6).trans rfl
      have f6 : w5.frozen? ⟨A, 6, none⟩ = false := frozen_no HB5.out.hA _
      have a7 : w5.cell? ⟨A, 7, none⟩ = some (.slice none 0 0) := (cells_at HB5.out.hA 7).trans rfl
      have f7 : w5.frozen? ⟨A, 7, none⟩ = false := frozen_no HB5.out.hA _
      rw [HWQ.out]
      clear hq hb5 hs HB5
      go_wp2
      refine bodyPost_ret (results_cell_row1 rfl _ _ A 50 _ (0, 0) _ rfl HAA.out Try.underlying50 rfl (by kernel_rfl)) rfl ?_
      exact HWO.out _ _ ⟨.inr ⟨HOKE.out, q, rfl, HWF.out⟩, HBF.out⟩
end Go.Proofs.Ytcnoipcpifackah
