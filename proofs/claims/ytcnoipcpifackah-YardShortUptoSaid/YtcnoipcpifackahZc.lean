/- A move, in the document's answer. -/
import Derived.Test.YtcnoipcpifackahZ9
namespace Go.Proofs.Ytcnoipcpifackah
open Go.RowKit Go.Shelf

def MoveOfO (y : YardM) (k : Nat) (w : World) (e : Ending) (w' : World) : Prop :=
  ((moveErr y k ≠ 0 ∧ e = .returned (.tuple #[.agg zero4, .int .i64 (moveErr y k)])) ∨ (moveErr y k = 0 ∧ ∃ af ad as' cf cd cs, e = .returned (.tuple #[.agg #[.int .i64 y.points, .slice af y.fed.length cf, .slice ad y.drawn.length cd, .slice as' y.devs.length cs], .int .i64 0]) ∧ ∀ w2, KeepX w' w2 → YardAt w2 af ad as' cf cd cs (y.turn k))) ∧ Below w.heap.size w w'
/-- What lies there while a move is weighed. -/
structure MW (w wr : World) (Y A Dv : Nat) (yc dc : Array Value) : Prop where
  hY : wr.heap[Y]? = some (.cells yc 25 (0, 0))
  hA : wr.heap[A]? = some (.cells zero4 25 (0, 0))
  hD : wr.heap[Dv]? = some (.cells dc 45 (0, 0))
  sA : w.heap.size ≤ A
  bel : Below w.heap.size w wr
theorem MW.more {w wr wr' : World} {Y A Dv : Nat} {yc dc : Array Value} (h : MW w wr Y A Dv yc dc) (hb : Below wr.heap.size wr wr') : MW w wr' Y A Dv yc dc :=
  ⟨(hb.block Y (Array.getElem?_eq_some_iff.1 h.hY).1).trans h.hY, (hb.block A (Array.getElem?_eq_some_iff.1 h.hA).1).trans h.hA, (hb.block Dv (Array.getElem?_eq_some_iff.1 h.hD).1).trans h.hD, h.sA, h.bel.trans (hb.mono h.bel.size)⟩
theorem move_err {y : YardM} (hm : MayY y) {k : Nat} (hk : k < y.devs.length) : (((y.dev k).shut = true → ((y.dev k).kind = 2 → loadB y k = false) → moveErr y k = 0) ∧ ((y.dev k).shut = false → (y.dev k).kind = 3 → (y.live.getD (y.dev k).a.toNat false = true → moveErr y k = 11) ∧ (y.live.getD (y.dev k).a.toNat false = false → moveErr y k = 0)) ∧ ((y.dev k).shut = false → ¬ (y.dev k).kind = 3 → ((y.dev k).kind = 2 → loadB y k = false) → (soundB (y.turn k) = false → moveErr y k = 12) ∧ (soundB (y.turn k) = true → moveErr y k = 0))) := by
  have hkind : (y.dev k).kind = 1 ∨ (y.dev k).kind = 2 ∨ (y.dev k).kind = 3 := by
    rcases hm.o _ (dev_get hk).2 with ⟨h1, _⟩ | ⟨h1, _⟩ <;> omega
  refine ⟨fun hs h2 => ?_, fun hs h3 => ⟨fun hl => ?_, fun hl => ?_⟩, fun hs h3 h2 => ⟨fun hl => ?_, fun hl => ?_⟩⟩
  · rcases hkind with h | h | h
    · simp [moveErr, h, earthE, hs]
    · simp [moveErr, h, earthE, hs, loadE, h2 h]
    · simp [moveErr, h, liveE, hs]
  · simp only [moveErr, h3, liveE, hs, hl]; rfl
  · simp only [moveErr, h3, liveE, hs, hl]; rfl
  · rcases hkind with h | h | h
    · simp [moveErr, h, earthE, hs, hl]
    · simp [moveErr, h, earthE, hs, loadE, h2 h, hl]
    · exact absurd h h3
  · rcases hkind with h | h | h
    · simp [moveErr, h, earthE, hs, hl]
    · simp [moveErr, h, earthE, hs, loadE, h2 h, hl]
    · exact absurd h h3
theorem move_err2 {y : YardM} {k : Nat} (h : (y.dev k).kind = 2) (hl : loadB y k = true) : moveErr y k = 13 := by simp [moveErr, h, loadE, hl]
set_option maxRecDepth 100000 in
set_option maxHeartbeats 2000000 in
theorem moveOf_any (y : YardM) (hm : MayY y) (k : Nat) (hk : k < y.devs.length) (af ad as' : Option Addr) (cf cd cs : Nat) (w : World) (hy : YardAt w af ad as' cf cd cs y) :
    Calls Try.prog 24 #[.agg #[.int .i64 y.points, .slice af y.fed.length cf, .slice ad y.drawn.length cd, .slice as' y.devs.length cs], .int .i64 k] w (MoveOfO y k w) := by
  have HWO : Hid (∀ e w', ((moveErr y k ≠ 0 ∧ e = .returned (.tuple #[.agg zero4, .int .i64 (moveErr y k)])) ∨ (moveErr y k = 0 ∧ ∃ af ad as' cf cd cs, e = .returned (.tuple #[.agg #[.int .i64 y.points, .slice af y.fed.length cf, .slice ad y.drawn.length cd, .slice as' y.devs.length cs], .int .i64 0]) ∧ ∀ w2, KeepX w' w2 → YardAt w2 af ad as' cf cd cs (y.turn k))) ∧ Below w.heap.size w w' → MoveOfO y k w e w') := fun _ _ h => h
  obtain ⟨R, hR⟩ : ∃ R, R = MoveOfO y k w := ⟨_, rfl⟩
  rw [← hR] at HWO ⊢
  have HER : Hid (((y.dev k).shut = true → ((y.dev k).kind = 2 → loadB y k = false) → moveErr y k = 0) ∧ ((y.dev k).shut = false → (y.dev k).kind = 3 → (y.live.getD (y.dev k).a.toNat false = true → moveErr y k = 11) ∧ (y.live.getD (y.dev k).a.toNat false = false → moveErr y k = 0)) ∧ ((y.dev k).shut = false → ¬ (y.dev k).kind = 3 → ((y.dev k).kind = 2 → loadB y k = false) → (soundB (y.turn k) = false → moveErr y k = 12) ∧ (soundB (y.turn k) = true → moveErr y k = 0))) := move_err hm hk
  have HSO : Hid (∀ w' zf zd za zcf zcd zcs, YardAt w' zf zd za zcf zcd zcs (y.turn k) → Calls Try.prog 23 #[.agg #[.int .i64 y.points, .slice zf y.fed.length zcf, .slice zd y.drawn.length zcd, .slice za y.devs.length zcs]] w' fun e w2 => e = .returned (.bool (soundB (y.turn k))) ∧ Below w'.heap.size w' w2) := fun w' zf zd za zcf zcd zcs h => by
    have h1 := Sound_any (y.turn k) (hm.turn k) zf zd za zcf zcd zcs w' h
    rw [turn_len] at h1
    exact h1
  have HLI : Hid (∀ w', Below w.heap.size w w' → Calls Try.prog 34 #[.agg #[.int .i64 y.points, .slice af y.fed.length cf, .slice ad y.drawn.length cd, .slice as' y.devs.length cs]] w' fun e w2 => ∃ T c, e = .returned (.slice (some ⟨T, 0, none⟩) y.n c) ∧ w2.ownsRow w'.heap.size 4 1 (.slice (some ⟨T, 0, none⟩) y.n c) y.n (y.live.map Value.bool) ∧ Below w'.heap.size w' w2) := fun w' hb => LiveIn_any y hm af ad as' cf cd cs w' (hy.below hb (Nat.le_refl _))
  have hlen := rising_small hm.f (by have := hm.p; omega)
  have hlen2 := rising_small hm.w (by have := hm.p; omega)
  have HOF : Hid (∀ w', Below w.heap.size w w' → Calls Try.prog 8 #[.agg #[.int .i64 y.points, .slice af y.fed.length cf, .slice ad y.drawn.length cd, .slice as' y.devs.length cs]] w' fun e w2 => ∃ af2 ad2 as2 cf2 cd2 cs2, e = .returned (.agg #[.int .i64 y.points, .slice af2 y.fed.length cf2, .slice ad2 y.drawn.length cd2, .slice as2 y.devs.length cs2]) ∧ (w2.ownsRow w'.heap.size 3 1 (.slice af2 y.fed.length cf2) y.fed.length (ints y.fed) ∧ w2.ownsRow w'.heap.size 3 1 (.slice ad2 y.drawn.length cd2) y.drawn.length (ints y.drawn) ∧ w2.ownsRow w'.heap.size 45 4 (.slice as2 y.devs.length cs2) y.devs.length (y.devs.flatMap DevM.cells)) ∧ Below w'.heap.size w' w2) := fun w' hb => YardOf_own y af ad as' cf cd cs w' (hy.below hb (Nat.le_refl _)) (by omega) (by omega) (by have := hm.d; omega)
  have HTD : Hid ((y.turn k).devs = y.devs.modify k fun x => { x with shut := !(y.dev k).shut }) := turn_is (dev_get hk).1
  obtain ⟨a, hae, hna0⟩ := dev_a hm hk
  have hna := hna0
  rw [hae, Int.toNat_natCast] at HER
  obtain ⟨n, hn⟩ : ∃ n, n = y.n := ⟨_, rfl⟩
  rw [← hn] at HLI hna
  have HDV0 := hide' hae
  have HYD : Hid (y.dev k = ⟨(y.dev k).kind, (a : Int), (y.dev k).b, (y.dev k).shut⟩) := by show _ = _; rw [← hae]
  obtain ⟨kd, hkd⟩ : ∃ l, l = (y.dev k).kind := ⟨_, rfl⟩
  obtain ⟨sh, hsh⟩ : ∃ l, l = (y.dev k).shut := ⟨_, rfl⟩
  obtain ⟨bb, hbb⟩ : ∃ l, l = (y.dev k).b := ⟨_, rfl⟩
  have HSH := hide' hsh
  have HKD := hide' hkd
  rw [← hkd, ← hsh, ← hbb] at HYD
  rw [← hsh] at HTD
  rw [← hkd] at HER
  have HDV : Hid ((y.dev k).cells = [.int .i64 kd, .int .i64 (a : Int), .int .i64 bb, .bool sh]) := by show _ = _; rw [HYD.out]; rfl
  clear hkd hsh hbb hlen hlen2 hna0 hae hn HDV0 hR
  have HY := hide' hy
  have HM := hide' hm
  have hd10 := hm.d
  have HDG := hide' (dev_get hk).1
  obtain ⟨lf, hlf⟩ : ∃ l, l = y.fed.length := ⟨_, rfl⟩
  obtain ⟨ld, hld⟩ : ∃ l, l = y.drawn.length := ⟨_, rfl⟩
  obtain ⟨ls, hls⟩ : ∃ l, l = y.devs.length := ⟨_, rfl⟩
  obtain ⟨pt, hpt⟩ : ∃ l, l = y.points := ⟨_, rfl⟩
  rw [← hlf, ← hld, ← hls, ← hpt] at HSO HLI HOF HWO ⊢
  rw [← hls] at hk hd10
  have HLD : Hid (kd ≠ 3 → ∀ w', Below w.heap.size w w' → Calls Try.prog 36 #[.agg #[.int .i64 pt, .slice af lf cf, .slice ad ld cd, .slice as' ls cs], .int .i64 k] w' fun e w2 => e = .returned (.bool (loadB y k)) ∧ Below w'.heap.size w' w2) := fun h3 w' hb => by
    rw [hlf, hld, hls, hpt]
    exact loaded_any y hm k (by rw [← hls]; exact hk) (by rw [← HKD.out]; exact h3) af ad as' cf cd cs w' (hy.below hb (Nat.le_refl _))
  have HUF := hide' hy.s
  rw [← hls] at HUF
  have HDK : Hid (∀ h : k < y.devs.length, y.devs[k] = y.dev k) := fun h => Option.some.inj ((List.getElem?_eq_getElem h).symm.trans HDG.out)
  have HLS : Hid (lf = y.fed.length ∧ ld = y.drawn.length ∧ ls = y.devs.length ∧ pt = y.points) := ⟨hlf, hld, hls, hpt⟩
  clear hlf hld hls hpt hm hy
  go_enter Try.func24, Try.ntmps24
  go_upto_region 1 with fail
  have HQ1 := hide' (alloc_new w (.cells #[.int .i64 pt, .slice af lf cf, .slice ad ld cd, .slice as' ls cs] 25))
  have HQ2 := hide' (alloc_new (w.alloc (.cells #[.int .i64 pt, .slice af lf cf, .slice ad ld cd, .slice as' ls cs] 25)) (.cells zero4 25))
  have HQ3 := hide' ((alloc_old (w.alloc (.cells #[.int .i64 pt, .slice af lf cf, .slice ad ld cd, .slice as' ls cs] 25)) (.cells zero4 25) (Array.getElem?_eq_some_iff.1 HQ1.out).1).trans HQ1.out)
  have HB1 : Hid (Below w.heap.size w ((w.alloc (.cells #[.int .i64 pt, .slice af lf cf, .slice ad ld cd, .slice as' ls cs] 25)).alloc (.cells zero4 25))) := (below_al w (.cells #[.int .i64 pt, .slice af lf cf, .slice ad ld cd, .slice as' ls cs] 25)).alloc (below_al w (.cells #[.int .i64 pt, .slice af lf cf, .slice ad ld cd, .slice as' ls cs] 25)).size _
  rw [show (w.alloc (.cells #[.int .i64 pt, .slice af lf cf, .slice ad ld cd, .slice as' ls cs] 25)).heap.size = w.heap.size + 1 from World.size_alloc ..] at HQ2
  rw [show (#[Value.int IntKind.i64 0, Value.slice none 0 0, Value.slice none 0 0, Value.slice none 0 0] : Array Value) = zero4 from rfl]
  obtain ⟨w1, hw1⟩ : ∃ x, x = (w.alloc (.cells #[.int .i64 pt, .slice af lf cf, .slice ad ld cd, .slice as' ls cs] 25)).alloc (.cells zero4 25) := ⟨_, rfl⟩
  rw [← hw1] at HQ2 HQ3 HB1 ⊢
  obtain ⟨Y, hU⟩ : ∃ U, U = w.heap.size := ⟨_, rfl⟩
  obtain ⟨A, hV⟩ : ∃ V, V = w.heap.size + 1 := ⟨_, rfl⟩
  have HSA : Hid (w.heap.size ≤ A) := by show _ ≤ _; omega
  rw [← hV] at HQ2
  rw [← hU] at HQ3
  rw [show (Value.pointer (some { block := w.heap.size, off := 0 })) = Value.pointer (some { block := Y, off := 0 }) by rw [hU]]
  rw [show (Value.pointer (some { block := w.heap.size + 1, off := 0 })) = Value.pointer (some { block := A, off := 0 }) by rw [hV]]
  clear hw1 hU hV HQ1
  have u3 : w1.cell? ⟨Y, 3, none⟩ = some (.slice as' ls cs) := (cells_at HQ3.out 3).trans rfl
  obtain ⟨b1, o1, c1, ex1, hb1, hc1⟩ := row_elem (f := DevM.cells) (fun _ => rfl) (HUF.out.below HB1.out (Nat.le_refl _)) k (by rw [← HLS.out.2.2.1]; exact hk) (by decide)
  cases ex1
  rw [HDK.out, HDV.out] at hc1
  have d0 : w1.cell? ⟨b1, o1 + k * 4 + 0, none⟩ = some (.int .i64 kd) := hc1 0 _ rfl
  have d1 : w1.cell? ⟨b1, o1 + k * 4 + 1, none⟩ = some (.int .i64 (a : Int)) := hc1 1 _ rfl
  have d2 : w1.cell? ⟨b1, o1 + k * 4 + 2, none⟩ = some (.int .i64 bb) := hc1 2 _ rfl
  have d3 : w1.cell? ⟨b1, o1 + k * 4 + 3, none⟩ = some (.bool sh) := hc1 3 _ rfl
  rw [Nat.add_zero] at d0
  clear hc1 hb1
  go_upto_region 2 with fail
  have HM5 : Hid (MW w (w1.alloc (.cells #[.int .i64 kd, .int .i64 (a : Int), .int .i64 bb, .bool sh] 45)) Y A w1.heap.size #[.int .i64 pt, .slice af lf cf, .slice ad ld cd, .slice (some ⟨b1, o1, none⟩) ls cs] #[.int .i64 kd, .int .i64 (a : Int), .int .i64 bb, .bool sh]) := ⟨(alloc_old _ _ (Array.getElem?_eq_some_iff.1 HQ3.out).1).trans HQ3.out, (alloc_old _ _ (Array.getElem?_eq_some_iff.1 HQ2.out).1).trans HQ2.out, alloc_new _ _, HSA.out, HB1.out.alloc HB1.out.size _⟩
  obtain ⟨w5, hw5⟩ : ∃ x, x = w1.alloc (.cells #[.int .i64 kd, .int .i64 (a : Int), .int .i64 bb, .bool sh] 45) := ⟨_, rfl⟩
  obtain ⟨Dv, hDD⟩ : ∃ x, x = w1.heap.size := ⟨_, rfl⟩
  rw [← hw5] at HM5 ⊢
  rw [← hDD] at HM5 ⊢
  clear hw5 hDD HQ2 HQ3 HB1 HSA u3 d0 d1 d2 d3
  have g0 : w5.cell? ⟨Dv, 0, none⟩ = some (.int .i64 kd) := (cells_at HM5.out.hD 0).trans rfl
  have y0 : w5.cell? ⟨Y, 0, none⟩ = some (.int .i64 pt) := (cells_at HM5.out.hY 0).trans rfl
  have y1 : w5.cell? ⟨Y, 1, none⟩ = some (.slice af lf cf) := (cells_at HM5.out.hY 1).trans rfl
  have y2 : w5.cell? ⟨Y, 2, none⟩ = some (.slice ad ld cd) := (cells_at HM5.out.hY 2).trans rfl
  have y3 : w5.cell? ⟨Y, 3, none⟩ = some (.slice (some ⟨b1, o1, none⟩) ls cs) := (cells_at HM5.out.hY 3).trans rfl
  by_cases hkd : kd = 2
  · have HK2 := hide' hkd
    have HL5 := hide' (HLD.out (by rw [hkd]; decide) w5 HM5.out.bel)
    rw [hkd] at g0
    go_wp2_with fail
    refine HL5.out.mono ?_
    rintro e w6 ⟨rfl, hb6⟩
    have HM6 := hide' (HM5.out.more hb6)
    obtain ⟨lb, hlb⟩ : ∃ x, x = loadB y k := ⟨_, rfl⟩
    have HLB := hide' hlb
    rw [← hlb]
    clear hlb hb6 HM5 HL5 g0 y0 y1 y2 y3
    cases lb with
    | true =>
      have HME : Hid (moveErr y k = 13) := by show _ = _; exact move_err2 (HKD.out.symm.trans HK2.out) HLB.out.symm
      have HAA : Hid (((((w6.setCell ⟨A, 0, none⟩ (.int .i64 0)).setCell ⟨A, 1, none⟩ (.slice none 0 0)).setCell ⟨A, 2, none⟩ (.slice none 0 0)).setCell ⟨A, 3, none⟩ (.slice none 0 0)).heap[A]? = some (.cells zero4 25 (0, 0))) := (set_any (set_any (set_any (set_any HM6.out.hA 0 _) 1 _) 2 _) 3 _).trans (congrArg (fun c => some (Obj.cells c 25 (0, 0))) (set4 _ _ _ _ _ _ _ _))
      have HBF : Hid (Below w.heap.size w ((((w6.setCell ⟨A, 0, none⟩ (.int .i64 0)).setCell ⟨A, 1, none⟩ (.slice none 0 0)).setCell ⟨A, 2, none⟩ (.slice none 0 0)).setCell ⟨A, 3, none⟩ (.slice none 0 0))) := ((((HM6.out.bel.setCell (p := ⟨A, 0, none⟩) HM6.out.sA _).setCell (p := ⟨A, 1, none⟩) HM6.out.sA _).setCell (p := ⟨A, 2, none⟩) HM6.out.sA _).setCell (p := ⟨A, 3, none⟩) HM6.out.sA _)
      have a0 : w6.cell? ⟨A, 0, none⟩ = some (.int .i64 0) := (cells_at HM6.out.hA 0).trans rfl
      have f0 : w6.frozen? ⟨A, 0, none⟩ = false := frozen_no HM6.out.hA _
      have a1 : w6.cell? ⟨A, 1, none⟩ = some (.slice none 0 0) := (cells_at HM6.out.hA 1).trans rfl
      have f1 : w6.frozen? ⟨A, 1, none⟩ = false := frozen_no HM6.out.hA _
      have a2 : w6.cell? ⟨A, 2, none⟩ = some (.slice none 0 0) := (cells_at HM6.out.hA 2).trans rfl
      have f2 : w6.frozen? ⟨A, 2, none⟩ = false := frozen_no HM6.out.hA _
      have a3 : w6.cell? ⟨A, 3, none⟩ = some (.slice none 0 0) := (cells_at HM6.out.hA 3).trans rfl
      have f3 : w6.frozen? ⟨A, 3, none⟩ = false := frozen_no HM6.out.hA _
      go_wp2
      refine bodyPost_ret (results_cell_row1 rfl _ _ A 25 _ (0, 0) _ rfl HAA.out Try.underlying25 rfl (by kernel_rfl)) rfl ?_
      exact HWO.out _ _ ⟨.inl ⟨by rw [HME.out]; decide, by rw [HME.out]; rfl⟩, HBF.out⟩
    | false =>
      have HNL : Hid (kd = 2 → loadB y k = false) := fun _ => HLB.out.symm
      have HO6 := hide' (HOF.out w6 HM6.out.bel)
      have y0 : w6.cell? ⟨Y, 0, none⟩ = some (.int .i64 pt) := (cells_at HM6.out.hY 0).trans rfl
      have y1 : w6.cell? ⟨Y, 1, none⟩ = some (.slice af lf cf) := (cells_at HM6.out.hY 1).trans rfl
      have y2 : w6.cell? ⟨Y, 2, none⟩ = some (.slice ad ld cd) := (cells_at HM6.out.hY 2).trans rfl
      have y3 : w6.cell? ⟨Y, 3, none⟩ = some (.slice (some ⟨b1, o1, none⟩) ls cs) := (cells_at HM6.out.hY 3).trans rfl
      go_wp2_with fail
      refine HO6.out.mono ?_
      rintro e w7 ⟨zf, zd, za, zcf, zcd, zcs, rfl, ⟨ho1, ho2, ho3⟩, hb7⟩
      obtain ⟨V, rfl⟩ : ∃ V, za = some ⟨V, 0, none⟩ := by
        rcases ho3.2 with ⟨_, h0⟩ | ⟨g, cap, cur, h1, _⟩
        · omega
        · cases h1; exact ⟨g, rfl⟩
      have HO2 := hide' ho1
      have HO3 := hide' ho2
      have HO4 := hide' ho3
      have HB7 := hide' hb7
      clear ho1 ho2 ho3 hb7 HO6 y0 y1 y2 y3
      go_upto_region 5 with fail
      have HZ8 := hide' (alloc_new w7 (.cells #[.int .i64 pt, .slice zf lf zcf, .slice zd ld zcd, .slice (some ⟨V, 0, none⟩) ls zcs] 25))
      have HB8 := hide' (HB7.out.alloc HB7.out.size (.cells #[.int .i64 pt, .slice zf lf zcf, .slice zd ld zcd, .slice (some ⟨V, 0, none⟩) ls zcs] 25))
      have HF8 := hide' (own_below HO2.out (below_al w7 (.cells #[.int .i64 pt, .slice zf lf zcf, .slice zd ld zcd, .slice (some ⟨V, 0, none⟩) ls zcs] 25)) (Nat.le_refl _))
      have HR8 := hide' (own_below HO3.out (below_al w7 (.cells #[.int .i64 pt, .slice zf lf zcf, .slice zd ld zcd, .slice (some ⟨V, 0, none⟩) ls zcs] 25)) (Nat.le_refl _))
      have HV8 := hide' (own_below HO4.out (below_al w7 (.cells #[.int .i64 pt, .slice zf lf zcf, .slice zd ld zcd, .slice (some ⟨V, 0, none⟩) ls zcs] 25)) (Nat.le_refl _))
      obtain ⟨w8, hw8⟩ : ∃ x, x = w7.alloc (.cells #[.int .i64 pt, .slice zf lf zcf, .slice zd ld zcd, .slice (some ⟨V, 0, none⟩) ls zcs] 25) := ⟨_, rfl⟩
      obtain ⟨Z, hZZ⟩ : ∃ x, x = w7.heap.size := ⟨_, rfl⟩
      rw [← hw8] at HZ8 HB8 HF8 HR8 HV8 ⊢
      rw [← hZZ] at HZ8 ⊢
      clear hw8 hZZ HB7 HO2 HO3 HO4
      have HM8 := hide' (HM6.out.more HB8.out)
      have z3 : w8.cell? ⟨Z, 3, none⟩ = some (.slice (some ⟨V, 0, none⟩) ls zcs) := (cells_at HZ8.out 3).trans rfl
      have g3 : w8.cell? ⟨Dv, 3, none⟩ = some (.bool sh) := (cells_at HM8.out.hD 3).trans rfl
      obtain ⟨cv3, fv3⟩ := own_cell HV8.out (j := k * 4 + 3) (u := .bool sh) ((dev_cell HDG.out (by decide)).trans (by rw [HDV.out]; rfl))
      go_upto_region 6 with fail
      have hVs : w6.heap.size ≤ V := own_at HV8.out V rfl
      obtain ⟨curV, hcurV⟩ : ∃ cur, w8.heap[V]? = some (.cells cur 45 (0, 0)) := by
        rcases HV8.out.2 with ⟨h1, _⟩ | ⟨g, cap, cur, h1, _, h2, _⟩
        · cases h1
        · cases h1; exact ⟨_, h2⟩
      have hke : KeepE 45 w8 (w8.setCell ⟨V, k * 4 + 3, none⟩ (.bool !sh)) := keep_set hcurV _ _
      have HB9 : Hid (Below w6.heap.size w6 (w8.setCell ⟨V, k * 4 + 3, none⟩ (.bool !sh))) := HB8.out.setCell (p := ⟨V, k * 4 + 3, none⟩) hVs _
      have HZ9 := hide' ((hke Z _ _ _ HZ8.out (by decide)).trans HZ8.out)
      have HO9F := hide' (own_keep HF8.out hke (by decide))
      have HO9R := hide' (own_keep HR8.out hke (by decide))
      have HO9V : Hid ((w8.setCell ⟨V, k * 4 + 3, none⟩ (.bool !sh)).ownsRow w6.heap.size 45 4 (.slice (some ⟨V, 0, none⟩) ls zcs) ls ((y.turn k).devs.flatMap DevM.cells)) := by
        have h1 := own_dev_set HV8.out k (!sh) hk
        rw [← HTD.out] at h1
        exact h1
      obtain ⟨w9, hw9⟩ : ∃ x, x = w8.setCell ⟨V, k * 4 + 3, none⟩ (.bool !sh) := ⟨_, rfl⟩
      rw [← hw9] at HB9 HZ9 HO9F HO9R HO9V ⊢
      have HM9 := hide' (HM6.out.more HB9.out)
      clear hw9 hke hcurV hVs cv3 fv3 z3 g3 HB8 HZ8 HF8 HR8 HV8 HM8
      have HOT : Hid (∀ (wx : World) {B1 B2 B3 : Nat}, wx.ownsRow B1 3 1 (.slice zf lf zcf) lf (ints y.fed) → wx.ownsRow B2 3 1 (.slice zd ld zcd) ld (ints y.drawn) → wx.ownsRow B3 45 4 (.slice (some ⟨V, 0, none⟩) ls zcs) ls ((y.turn k).devs.flatMap DevM.cells) → YardAt wx zf zd (some ⟨V, 0, none⟩) zcf zcd zcs (y.turn k)) := fun wx _ _ _ h1 h2 h3 => by
        refine ⟨?_, ?_, ?_⟩
        · show RowAt wx (.slice zf y.fed.length zcf) y.fed.length 1 (ints y.fed)
          rw [← HLS.out.1]; exact rowAt_of_own h1
        · show RowAt wx (.slice zd y.drawn.length zcd) y.drawn.length 1 (ints y.drawn)
          rw [← HLS.out.2.1]; exact rowAt_of_own h2
        · rw [turn_len, ← HLS.out.2.2.1]; exact rowAt_of_own h3
      have g3 : w9.cell? ⟨Dv, 3, none⟩ = some (.bool sh) := (cells_at HM9.out.hD 3).trans rfl
      cases sh with
      | true =>
        have HME : Hid (moveErr y k = 0) := by show _ = _; exact HER.out.1 HSH.out.symm HNL.out
        have s0 : w9.cell? ⟨Z, 0, none⟩ = some (.int .i64 pt) := (cells_at HZ9.out 0).trans rfl
        have s1 : w9.cell? ⟨Z, 1, none⟩ = some (.slice zf lf zcf) := (cells_at HZ9.out 1).trans rfl
        have s2 : w9.cell? ⟨Z, 2, none⟩ = some (.slice zd ld zcd) := (cells_at HZ9.out 2).trans rfl
        have s3 : w9.cell? ⟨Z, 3, none⟩ = some (.slice (some ⟨V, 0, none⟩) ls zcs) := (cells_at HZ9.out 3).trans rfl
        have a0 : w9.cell? ⟨A, 0, none⟩ = some (.int .i64 0) := (cells_at HM9.out.hA 0).trans rfl
        have f0 : w9.frozen? ⟨A, 0, none⟩ = false := frozen_no HM9.out.hA _
        have a1 : w9.cell? ⟨A, 1, none⟩ = some (.slice none 0 0) := (cells_at HM9.out.hA 1).trans rfl
        have f1 : w9.frozen? ⟨A, 1, none⟩ = false := frozen_no HM9.out.hA _
        have a2 : w9.cell? ⟨A, 2, none⟩ = some (.slice none 0 0) := (cells_at HM9.out.hA 2).trans rfl
        have f2 : w9.frozen? ⟨A, 2, none⟩ = false := frozen_no HM9.out.hA _
        have a3 : w9.cell? ⟨A, 3, none⟩ = some (.slice none 0 0) := (cells_at HM9.out.hA 3).trans rfl
        have f3 : w9.frozen? ⟨A, 3, none⟩ = false := frozen_no HM9.out.hA _
        have hs9 : ∀ j, j ≠ A → ((((w9.setCell ⟨A, 0, none⟩ (.int .i64 pt)).setCell ⟨A, 1, none⟩ (.slice zf lf zcf)).setCell ⟨A, 2, none⟩ (.slice zd ld zcd)).setCell ⟨A, 3, none⟩ (.slice (some ⟨V, 0, none⟩) ls zcs)).heap[j]? = w9.heap[j]? := fun j hj => by
          rw [Below.heap_setCell _ _ _ j hj, Below.heap_setCell _ _ _ j hj, Below.heap_setCell _ _ _ j hj, Below.heap_setCell _ _ _ j hj]
        have HAA : Hid (((((w9.setCell ⟨A, 0, none⟩ (.int .i64 pt)).setCell ⟨A, 1, none⟩ (.slice zf lf zcf)).setCell ⟨A, 2, none⟩ (.slice zd ld zcd)).setCell ⟨A, 3, none⟩ (.slice (some ⟨V, 0, none⟩) ls zcs)).heap[A]? = some (.cells #[.int .i64 pt, .slice zf lf zcf, .slice zd ld zcd, .slice (some ⟨V, 0, none⟩) ls zcs] 25 (0, 0))) := (set_any (set_any (set_any (set_any HM9.out.hA 0 _) 1 _) 2 _) 3 _).trans (congrArg (fun c => some (Obj.cells c 25 (0, 0))) (set4 _ _ _ _ _ _ _ _))
        have HBF : Hid (Below w.heap.size w ((((w9.setCell ⟨A, 0, none⟩ (.int .i64 pt)).setCell ⟨A, 1, none⟩ (.slice zf lf zcf)).setCell ⟨A, 2, none⟩ (.slice zd ld zcd)).setCell ⟨A, 3, none⟩ (.slice (some ⟨V, 0, none⟩) ls zcs))) := ((((HM9.out.bel.setCell (p := ⟨A, 0, none⟩) HM9.out.sA _).setCell (p := ⟨A, 1, none⟩) HM9.out.sA _).setCell (p := ⟨A, 2, none⟩) HM9.out.sA _).setCell (p := ⟨A, 3, none⟩) HM9.out.sA _)
        have HX9 : Hid (KeepX w9 ((((w9.setCell ⟨A, 0, none⟩ (.int .i64 pt)).setCell ⟨A, 1, none⟩ (.slice zf lf zcf)).setCell ⟨A, 2, none⟩ (.slice zd ld zcd)).setCell ⟨A, 3, none⟩ (.slice (some ⟨V, 0, none⟩) ls zcs))) := fun j cur e1 fz hj he => hs9 j (fun e => by subst e; rw [HM9.out.hA] at hj; cases hj; simp at he)
        have HYF : Hid (∀ w2, KeepX ((((w9.setCell ⟨A, 0, none⟩ (.int .i64 pt)).setCell ⟨A, 1, none⟩ (.slice zf lf zcf)).setCell ⟨A, 2, none⟩ (.slice zd ld zcd)).setCell ⟨A, 3, none⟩ (.slice (some ⟨V, 0, none⟩) ls zcs)) w2 → YardAt w2 zf zd (some ⟨V, 0, none⟩) zcf zcd zcs (y.turn k)) := fun w2 hk2 => HOT.out _ (own_keepX HO9F.out (HX9.out.trans hk2) (by simp)) (own_keepX HO9R.out (HX9.out.trans hk2) (by simp)) (own_keepX HO9V.out (HX9.out.trans hk2) (by simp))
        clear hs9
        go_wp2
        refine bodyPost_ret (results_cell_row1 rfl _ _ A 25 _ (0, 0) _ rfl HAA.out Try.underlying25 rfl (by kernel_rfl)) rfl ?_
        exact HWO.out _ _ ⟨.inr ⟨HME.out, zf, zd, _, zcf, zcd, zcs, rfl, HYF.out⟩, HBF.out⟩
      | false =>
        have g0 : w9.cell? ⟨Dv, 0, none⟩ = some (.int .i64 kd) := (cells_at HM9.out.hD 0).trans rfl
        by_cases hk3 : kd = 3
        · exact absurd (HK2.out.symm.trans hk3) (by decide)
        · have HK3 := hide' hk3
          have HS9 := hide' (HSO.out w9 zf zd (some ⟨V, 0, none⟩) zcf zcd zcs (HOT.out w9 HO9F.out HO9R.out HO9V.out))
          have s0 : w9.cell? ⟨Z, 0, none⟩ = some (.int .i64 pt) := (cells_at HZ9.out 0).trans rfl
          have s1 : w9.cell? ⟨Z, 1, none⟩ = some (.slice zf lf zcf) := (cells_at HZ9.out 1).trans rfl
          have s2 : w9.cell? ⟨Z, 2, none⟩ = some (.slice zd ld zcd) := (cells_at HZ9.out 2).trans rfl
          have s3 : w9.cell? ⟨Z, 3, none⟩ = some (.slice (some ⟨V, 0, none⟩) ls zcs) := (cells_at HZ9.out 3).trans rfl
          go_wp2_with fail
          refine HS9.out.mono ?_
          rintro e w10 ⟨rfl, hb10⟩
          have HM10 := hide' (HM9.out.more hb10)
          have HZ10 := hide' ((hb10.block Z (Array.getElem?_eq_some_iff.1 HZ9.out).1).trans HZ9.out)
          have HO10F := hide' (own_below HO9F.out hb10 (Nat.le_refl _))
          have HO10R := hide' (own_below HO9R.out hb10 (Nat.le_refl _))
          have HO10V := hide' (own_below HO9V.out hb10 (Nat.le_refl _))
          obtain ⟨lv, hlv⟩ : ∃ x, x = soundB (y.turn k) := ⟨_, rfl⟩
          have HLV := hide' hlv
          rw [← hlv]
          clear hlv hb10 HS9 g0 g3 HO9F HO9R HO9V HZ9 HM9 HB9 s0 s1 s2 s3
          cases lv with
          | true =>
            have HME : Hid (moveErr y k = 0) := by show _ = _; exact (HER.out.2.2 HSH.out.symm HK3.out HNL.out).2 HLV.out.symm
            have s0 : w10.cell? ⟨Z, 0, none⟩ = some (.int .i64 pt) := (cells_at HZ10.out 0).trans rfl
            have s1 : w10.cell? ⟨Z, 1, none⟩ = some (.slice zf lf zcf) := (cells_at HZ10.out 1).trans rfl
            have s2 : w10.cell? ⟨Z, 2, none⟩ = some (.slice zd ld zcd) := (cells_at HZ10.out 2).trans rfl
            have s3 : w10.cell? ⟨Z, 3, none⟩ = some (.slice (some ⟨V, 0, none⟩) ls zcs) := (cells_at HZ10.out 3).trans rfl
            have a0 : w10.cell? ⟨A, 0, none⟩ = some (.int .i64 0) := (cells_at HM10.out.hA 0).trans rfl
            have f0 : w10.frozen? ⟨A, 0, none⟩ = false := frozen_no HM10.out.hA _
            have a1 : w10.cell? ⟨A, 1, none⟩ = some (.slice none 0 0) := (cells_at HM10.out.hA 1).trans rfl
            have f1 : w10.frozen? ⟨A, 1, none⟩ = false := frozen_no HM10.out.hA _
            have a2 : w10.cell? ⟨A, 2, none⟩ = some (.slice none 0 0) := (cells_at HM10.out.hA 2).trans rfl
            have f2 : w10.frozen? ⟨A, 2, none⟩ = false := frozen_no HM10.out.hA _
            have a3 : w10.cell? ⟨A, 3, none⟩ = some (.slice none 0 0) := (cells_at HM10.out.hA 3).trans rfl
            have f3 : w10.frozen? ⟨A, 3, none⟩ = false := frozen_no HM10.out.hA _
            have hs9 : ∀ j, j ≠ A → ((((w10.setCell ⟨A, 0, none⟩ (.int .i64 pt)).setCell ⟨A, 1, none⟩ (.slice zf lf zcf)).setCell ⟨A, 2, none⟩ (.slice zd ld zcd)).setCell ⟨A, 3, none⟩ (.slice (some ⟨V, 0, none⟩) ls zcs)).heap[j]? = w10.heap[j]? := fun j hj => by
              rw [Below.heap_setCell _ _ _ j hj, Below.heap_setCell _ _ _ j hj, Below.heap_setCell _ _ _ j hj, Below.heap_setCell _ _ _ j hj]
            have HAA : Hid (((((w10.setCell ⟨A, 0, none⟩ (.int .i64 pt)).setCell ⟨A, 1, none⟩ (.slice zf lf zcf)).setCell ⟨A, 2, none⟩ (.slice zd ld zcd)).setCell ⟨A, 3, none⟩ (.slice (some ⟨V, 0, none⟩) ls zcs)).heap[A]? = some (.cells #[.int .i64 pt, .slice zf lf zcf, .slice zd ld zcd, .slice (some ⟨V, 0, none⟩) ls zcs] 25 (0, 0))) := (set_any (set_any (set_any (set_any HM10.out.hA 0 _) 1 _) 2 _) 3 _).trans (congrArg (fun c => some (Obj.cells c 25 (0, 0))) (set4 _ _ _ _ _ _ _ _))
            have HBF : Hid (Below w.heap.size w ((((w10.setCell ⟨A, 0, none⟩ (.int .i64 pt)).setCell ⟨A, 1, none⟩ (.slice zf lf zcf)).setCell ⟨A, 2, none⟩ (.slice zd ld zcd)).setCell ⟨A, 3, none⟩ (.slice (some ⟨V, 0, none⟩) ls zcs))) := ((((HM10.out.bel.setCell (p := ⟨A, 0, none⟩) HM10.out.sA _).setCell (p := ⟨A, 1, none⟩) HM10.out.sA _).setCell (p := ⟨A, 2, none⟩) HM10.out.sA _).setCell (p := ⟨A, 3, none⟩) HM10.out.sA _)
            have HX9 : Hid (KeepX w10 ((((w10.setCell ⟨A, 0, none⟩ (.int .i64 pt)).setCell ⟨A, 1, none⟩ (.slice zf lf zcf)).setCell ⟨A, 2, none⟩ (.slice zd ld zcd)).setCell ⟨A, 3, none⟩ (.slice (some ⟨V, 0, none⟩) ls zcs))) := fun j cur e1 fz hj he => hs9 j (fun e => by subst e; rw [HM10.out.hA] at hj; cases hj; simp at he)
            have HYF : Hid (∀ w2, KeepX ((((w10.setCell ⟨A, 0, none⟩ (.int .i64 pt)).setCell ⟨A, 1, none⟩ (.slice zf lf zcf)).setCell ⟨A, 2, none⟩ (.slice zd ld zcd)).setCell ⟨A, 3, none⟩ (.slice (some ⟨V, 0, none⟩) ls zcs)) w2 → YardAt w2 zf zd (some ⟨V, 0, none⟩) zcf zcd zcs (y.turn k)) := fun w2 hk2 => HOT.out _ (own_keepX HO10F.out (HX9.out.trans hk2) (by simp)) (own_keepX HO10R.out (HX9.out.trans hk2) (by simp)) (own_keepX HO10V.out (HX9.out.trans hk2) (by simp))
            clear hs9
            go_wp2
            refine bodyPost_ret (results_cell_row1 rfl _ _ A 25 _ (0, 0) _ rfl HAA.out Try.underlying25 rfl (by kernel_rfl)) rfl ?_
            exact HWO.out _ _ ⟨.inr ⟨HME.out, zf, zd, _, zcf, zcd, zcs, rfl, HYF.out⟩, HBF.out⟩
          | false =>
            have HME : Hid (moveErr y k = 12) := by show _ = _; exact (HER.out.2.2 HSH.out.symm HK3.out HNL.out).1 HLV.out.symm
            have HAA : Hid (((((w10.setCell ⟨A, 0, none⟩ (.int .i64 0)).setCell ⟨A, 1, none⟩ (.slice none 0 0)).setCell ⟨A, 2, none⟩ (.slice none 0 0)).setCell ⟨A, 3, none⟩ (.slice none 0 0)).heap[A]? = some (.cells zero4 25 (0, 0))) := (set_any (set_any (set_any (set_any HM10.out.hA 0 _) 1 _) 2 _) 3 _).trans (congrArg (fun c => some (Obj.cells c 25 (0, 0))) (set4 _ _ _ _ _ _ _ _))
            have HBF : Hid (Below w.heap.size w ((((w10.setCell ⟨A, 0, none⟩ (.int .i64 0)).setCell ⟨A, 1, none⟩ (.slice none 0 0)).setCell ⟨A, 2, none⟩ (.slice none 0 0)).setCell ⟨A, 3, none⟩ (.slice none 0 0))) := ((((HM10.out.bel.setCell (p := ⟨A, 0, none⟩) HM10.out.sA _).setCell (p := ⟨A, 1, none⟩) HM10.out.sA _).setCell (p := ⟨A, 2, none⟩) HM10.out.sA _).setCell (p := ⟨A, 3, none⟩) HM10.out.sA _)
            have a0 : w10.cell? ⟨A, 0, none⟩ = some (.int .i64 0) := (cells_at HM10.out.hA 0).trans rfl
            have f0 : w10.frozen? ⟨A, 0, none⟩ = false := frozen_no HM10.out.hA _
            have a1 : w10.cell? ⟨A, 1, none⟩ = some (.slice none 0 0) := (cells_at HM10.out.hA 1).trans rfl
            have f1 : w10.frozen? ⟨A, 1, none⟩ = false := frozen_no HM10.out.hA _
            have a2 : w10.cell? ⟨A, 2, none⟩ = some (.slice none 0 0) := (cells_at HM10.out.hA 2).trans rfl
            have f2 : w10.frozen? ⟨A, 2, none⟩ = false := frozen_no HM10.out.hA _
            have a3 : w10.cell? ⟨A, 3, none⟩ = some (.slice none 0 0) := (cells_at HM10.out.hA 3).trans rfl
            have f3 : w10.frozen? ⟨A, 3, none⟩ = false := frozen_no HM10.out.hA _
            go_wp2
            refine bodyPost_ret (results_cell_row1 rfl _ _ A 25 _ (0, 0) _ rfl HAA.out Try.underlying25 rfl (by kernel_rfl)) rfl ?_
            exact HWO.out _ _ ⟨.inl ⟨by rw [HME.out]; decide, by rw [HME.out]; rfl⟩, HBF.out⟩
  · have HNL : Hid (kd = 2 → loadB y k = false) := fun h => absurd h hkd
    have HK2 := hide' hkd
    go_upto_region 4 with fail
    obtain ⟨w6, hw6⟩ : ∃ x, x = w5 := ⟨_, rfl⟩
    have HM6 := HM5
    rw [← hw6] at HM6 ⊢
    clear hw6 HM5 g0 y0 y1 y2 y3
    have HO6 := hide' (HOF.out w6 HM6.out.bel)
    have y0 : w6.cell? ⟨Y, 0, none⟩ = some (.int .i64 pt) := (cells_at HM6.out.hY 0).trans rfl
    have y1 : w6.cell? ⟨Y, 1, none⟩ = some (.slice af lf cf) := (cells_at HM6.out.hY 1).trans rfl
    have y2 : w6.cell? ⟨Y, 2, none⟩ = some (.slice ad ld cd) := (cells_at HM6.out.hY 2).trans rfl
    have y3 : w6.cell? ⟨Y, 3, none⟩ = some (.slice (some ⟨b1, o1, none⟩) ls cs) := (cells_at HM6.out.hY 3).trans rfl
    go_wp2_with fail
    refine HO6.out.mono ?_
    rintro e w7 ⟨zf, zd, za, zcf, zcd, zcs, rfl, ⟨ho1, ho2, ho3⟩, hb7⟩
    obtain ⟨V, rfl⟩ : ∃ V, za = some ⟨V, 0, none⟩ := by
      rcases ho3.2 with ⟨_, h0⟩ | ⟨g, cap, cur, h1, _⟩
      · omega
      · cases h1; exact ⟨g, rfl⟩
    have HO2 := hide' ho1
    have HO3 := hide' ho2
    have HO4 := hide' ho3
    have HB7 := hide' hb7
    clear ho1 ho2 ho3 hb7 HO6 y0 y1 y2 y3
    go_upto_region 5 with fail
    have HZ8 := hide' (alloc_new w7 (.cells #[.int .i64 pt, .slice zf lf zcf, .slice zd ld zcd, .slice (some ⟨V, 0, none⟩) ls zcs] 25))
    have HB8 := hide' (HB7.out.alloc HB7.out.size (.cells #[.int .i64 pt, .slice zf lf zcf, .slice zd ld zcd, .slice (some ⟨V, 0, none⟩) ls zcs] 25))
    have HF8 := hide' (own_below HO2.out (below_al w7 (.cells #[.int .i64 pt, .slice zf lf zcf, .slice zd ld zcd, .slice (some ⟨V, 0, none⟩) ls zcs] 25)) (Nat.le_refl _))
    have HR8 := hide' (own_below HO3.out (below_al w7 (.cells #[.int .i64 pt, .slice zf lf zcf, .slice zd ld zcd, .slice (some ⟨V, 0, none⟩) ls zcs] 25)) (Nat.le_refl _))
    have HV8 := hide' (own_below HO4.out (below_al w7 (.cells #[.int .i64 pt, .slice zf lf zcf, .slice zd ld zcd, .slice (some ⟨V, 0, none⟩) ls zcs] 25)) (Nat.le_refl _))
    obtain ⟨w8, hw8⟩ : ∃ x, x = w7.alloc (.cells #[.int .i64 pt, .slice zf lf zcf, .slice zd ld zcd, .slice (some ⟨V, 0, none⟩) ls zcs] 25) := ⟨_, rfl⟩
    obtain ⟨Z, hZZ⟩ : ∃ x, x = w7.heap.size := ⟨_, rfl⟩
    rw [← hw8] at HZ8 HB8 HF8 HR8 HV8 ⊢
    rw [← hZZ] at HZ8 ⊢
    clear hw8 hZZ HB7 HO2 HO3 HO4
    have HM8 := hide' (HM6.out.more HB8.out)
    have z3 : w8.cell? ⟨Z, 3, none⟩ = some (.slice (some ⟨V, 0, none⟩) ls zcs) := (cells_at HZ8.out 3).trans rfl
    have g3 : w8.cell? ⟨Dv, 3, none⟩ = some (.bool sh) := (cells_at HM8.out.hD 3).trans rfl
    obtain ⟨cv3, fv3⟩ := own_cell HV8.out (j := k * 4 + 3) (u := .bool sh) ((dev_cell HDG.out (by decide)).trans (by rw [HDV.out]; rfl))
    go_upto_region 6 with fail
    have hVs : w6.heap.size ≤ V := own_at HV8.out V rfl
    obtain ⟨curV, hcurV⟩ : ∃ cur, w8.heap[V]? = some (.cells cur 45 (0, 0)) := by
      rcases HV8.out.2 with ⟨h1, _⟩ | ⟨g, cap, cur, h1, _, h2, _⟩
      · cases h1
      · cases h1; exact ⟨_, h2⟩
    have hke : KeepE 45 w8 (w8.setCell ⟨V, k * 4 + 3, none⟩ (.bool !sh)) := keep_set hcurV _ _
    have HB9 : Hid (Below w6.heap.size w6 (w8.setCell ⟨V, k * 4 + 3, none⟩ (.bool !sh))) := HB8.out.setCell (p := ⟨V, k * 4 + 3, none⟩) hVs _
    have HZ9 := hide' ((hke Z _ _ _ HZ8.out (by decide)).trans HZ8.out)
    have HO9F := hide' (own_keep HF8.out hke (by decide))
    have HO9R := hide' (own_keep HR8.out hke (by decide))
    have HO9V : Hid ((w8.setCell ⟨V, k * 4 + 3, none⟩ (.bool !sh)).ownsRow w6.heap.size 45 4 (.slice (some ⟨V, 0, none⟩) ls zcs) ls ((y.turn k).devs.flatMap DevM.cells)) := by
      have h1 := own_dev_set HV8.out k (!sh) hk
      rw [← HTD.out] at h1
      exact h1
    obtain ⟨w9, hw9⟩ : ∃ x, x = w8.setCell ⟨V, k * 4 + 3, none⟩ (.bool !sh) := ⟨_, rfl⟩
    rw [← hw9] at HB9 HZ9 HO9F HO9R HO9V ⊢
    have HM9 := hide' (HM6.out.more HB9.out)
    clear hw9 hke hcurV hVs cv3 fv3 z3 g3 HB8 HZ8 HF8 HR8 HV8 HM8
    have HOT : Hid (∀ (wx : World) {B1 B2 B3 : Nat}, wx.ownsRow B1 3 1 (.slice zf lf zcf) lf (ints y.fed) → wx.ownsRow B2 3 1 (.slice zd ld zcd) ld (ints y.drawn) → wx.ownsRow B3 45 4 (.slice (some ⟨V, 0, none⟩) ls zcs) ls ((y.turn k).devs.flatMap DevM.cells) → YardAt wx zf zd (some ⟨V, 0, none⟩) zcf zcd zcs (y.turn k)) := fun wx _ _ _ h1 h2 h3 => by
      refine ⟨?_, ?_, ?_⟩
      · show RowAt wx (.slice zf y.fed.length zcf) y.fed.length 1 (ints y.fed)
        rw [← HLS.out.1]; exact rowAt_of_own h1
      · show RowAt wx (.slice zd y.drawn.length zcd) y.drawn.length 1 (ints y.drawn)
        rw [← HLS.out.2.1]; exact rowAt_of_own h2
      · rw [turn_len, ← HLS.out.2.2.1]; exact rowAt_of_own h3
    have g3 : w9.cell? ⟨Dv, 3, none⟩ = some (.bool sh) := (cells_at HM9.out.hD 3).trans rfl
    cases sh with
    | true =>
      have HME : Hid (moveErr y k = 0) := by show _ = _; exact HER.out.1 HSH.out.symm HNL.out
      have s0 : w9.cell? ⟨Z, 0, none⟩ = some (.int .i64 pt) := (cells_at HZ9.out 0).trans rfl
      have s1 : w9.cell? ⟨Z, 1, none⟩ = some (.slice zf lf zcf) := (cells_at HZ9.out 1).trans rfl
      have s2 : w9.cell? ⟨Z, 2, none⟩ = some (.slice zd ld zcd) := (cells_at HZ9.out 2).trans rfl
      have s3 : w9.cell? ⟨Z, 3, none⟩ = some (.slice (some ⟨V, 0, none⟩) ls zcs) := (cells_at HZ9.out 3).trans rfl
      have a0 : w9.cell? ⟨A, 0, none⟩ = some (.int .i64 0) := (cells_at HM9.out.hA 0).trans rfl
      have f0 : w9.frozen? ⟨A, 0, none⟩ = false := frozen_no HM9.out.hA _
      have a1 : w9.cell? ⟨A, 1, none⟩ = some (.slice none 0 0) := (cells_at HM9.out.hA 1).trans rfl
      have f1 : w9.frozen? ⟨A, 1, none⟩ = false := frozen_no HM9.out.hA _
      have a2 : w9.cell? ⟨A, 2, none⟩ = some (.slice none 0 0) := (cells_at HM9.out.hA 2).trans rfl
      have f2 : w9.frozen? ⟨A, 2, none⟩ = false := frozen_no HM9.out.hA _
      have a3 : w9.cell? ⟨A, 3, none⟩ = some (.slice none 0 0) := (cells_at HM9.out.hA 3).trans rfl
      have f3 : w9.frozen? ⟨A, 3, none⟩ = false := frozen_no HM9.out.hA _
      have hs9 : ∀ j, j ≠ A → ((((w9.setCell ⟨A, 0, none⟩ (.int .i64 pt)).setCell ⟨A, 1, none⟩ (.slice zf lf zcf)).setCell ⟨A, 2, none⟩ (.slice zd ld zcd)).setCell ⟨A, 3, none⟩ (.slice (some ⟨V, 0, none⟩) ls zcs)).heap[j]? = w9.heap[j]? := fun j hj => by
        rw [Below.heap_setCell _ _ _ j hj, Below.heap_setCell _ _ _ j hj, Below.heap_setCell _ _ _ j hj, Below.heap_setCell _ _ _ j hj]
      have HAA : Hid (((((w9.setCell ⟨A, 0, none⟩ (.int .i64 pt)).setCell ⟨A, 1, none⟩ (.slice zf lf zcf)).setCell ⟨A, 2, none⟩ (.slice zd ld zcd)).setCell ⟨A, 3, none⟩ (.slice (some ⟨V, 0, none⟩) ls zcs)).heap[A]? = some (.cells #[.int .i64 pt, .slice zf lf zcf, .slice zd ld zcd, .slice (some ⟨V, 0, none⟩) ls zcs] 25 (0, 0))) := (set_any (set_any (set_any (set_any HM9.out.hA 0 _) 1 _) 2 _) 3 _).trans (congrArg (fun c => some (Obj.cells c 25 (0, 0))) (set4 _ _ _ _ _ _ _ _))
      have HBF : Hid (Below w.heap.size w ((((w9.setCell ⟨A, 0, none⟩ (.int .i64 pt)).setCell ⟨A, 1, none⟩ (.slice zf lf zcf)).setCell ⟨A, 2, none⟩ (.slice zd ld zcd)).setCell ⟨A, 3, none⟩ (.slice (some ⟨V, 0, none⟩) ls zcs))) := ((((HM9.out.bel.setCell (p := ⟨A, 0, none⟩) HM9.out.sA _).setCell (p := ⟨A, 1, none⟩) HM9.out.sA _).setCell (p := ⟨A, 2, none⟩) HM9.out.sA _).setCell (p := ⟨A, 3, none⟩) HM9.out.sA _)
      have HX9 : Hid (KeepX w9 ((((w9.setCell ⟨A, 0, none⟩ (.int .i64 pt)).setCell ⟨A, 1, none⟩ (.slice zf lf zcf)).setCell ⟨A, 2, none⟩ (.slice zd ld zcd)).setCell ⟨A, 3, none⟩ (.slice (some ⟨V, 0, none⟩) ls zcs))) := fun j cur e1 fz hj he => hs9 j (fun e => by subst e; rw [HM9.out.hA] at hj; cases hj; simp at he)
      have HYF : Hid (∀ w2, KeepX ((((w9.setCell ⟨A, 0, none⟩ (.int .i64 pt)).setCell ⟨A, 1, none⟩ (.slice zf lf zcf)).setCell ⟨A, 2, none⟩ (.slice zd ld zcd)).setCell ⟨A, 3, none⟩ (.slice (some ⟨V, 0, none⟩) ls zcs)) w2 → YardAt w2 zf zd (some ⟨V, 0, none⟩) zcf zcd zcs (y.turn k)) := fun w2 hk2 => HOT.out _ (own_keepX HO9F.out (HX9.out.trans hk2) (by simp)) (own_keepX HO9R.out (HX9.out.trans hk2) (by simp)) (own_keepX HO9V.out (HX9.out.trans hk2) (by simp))
      clear hs9
      go_wp2
      refine bodyPost_ret (results_cell_row1 rfl _ _ A 25 _ (0, 0) _ rfl HAA.out Try.underlying25 rfl (by kernel_rfl)) rfl ?_
      exact HWO.out _ _ ⟨.inr ⟨HME.out, zf, zd, _, zcf, zcd, zcs, rfl, HYF.out⟩, HBF.out⟩
    | false =>
      have g0 : w9.cell? ⟨Dv, 0, none⟩ = some (.int .i64 kd) := (cells_at HM9.out.hD 0).trans rfl
      by_cases hk3 : kd = 3
      · have HK3 := hide' hk3
        have HL9 := hide' (HLI.out w9 HM9.out.bel)
        have y0 : w9.cell? ⟨Y, 0, none⟩ = some (.int .i64 pt) := (cells_at HM9.out.hY 0).trans rfl
        have y1 : w9.cell? ⟨Y, 1, none⟩ = some (.slice af lf cf) := (cells_at HM9.out.hY 1).trans rfl
        have y2 : w9.cell? ⟨Y, 2, none⟩ = some (.slice ad ld cd) := (cells_at HM9.out.hY 2).trans rfl
        have y3 : w9.cell? ⟨Y, 3, none⟩ = some (.slice (some ⟨b1, o1, none⟩) ls cs) := (cells_at HM9.out.hY 3).trans rfl
        go_wp2_with fail
        refine HL9.out.mono ?_
        rintro e w10 ⟨T, c, rfl, hown, hb10⟩
        have HM10 := hide' (HM9.out.more hb10)
        have HZ10 := hide' ((hb10.block Z (Array.getElem?_eq_some_iff.1 HZ9.out).1).trans HZ9.out)
        have HO10F := hide' (own_below HO9F.out hb10 (Nat.le_refl _))
        have HO10R := hide' (own_below HO9R.out hb10 (Nat.le_refl _))
        have HO10V := hide' (own_below HO9V.out hb10 (Nat.le_refl _))
        have tb := row_bit (rowAt_of_own hown) hna
        have g1 : w10.cell? ⟨Dv, 1, none⟩ = some (.int .i64 (a : Int)) := (cells_at HM10.out.hD 1).trans rfl
        obtain ⟨lv, hlv⟩ : ∃ x, x = y.live.getD a false := ⟨_, rfl⟩
        have HLV := hide' hlv
        rw [← hlv] at tb
        clear hlv hown hb10 HL9 y0 y1 y2 y3 g0 g3 HO9F HO9R HO9V HZ9 HM9 HB9
        cases lv with
        | true =>
          have HME : Hid (moveErr y k = 11) := by show _ = _; exact (HER.out.2.1 HSH.out.symm HK3.out).1 HLV.out.symm
          have HAA : Hid (((((w10.setCell ⟨A, 0, none⟩ (.int .i64 0)).setCell ⟨A, 1, none⟩ (.slice none 0 0)).setCell ⟨A, 2, none⟩ (.slice none 0 0)).setCell ⟨A, 3, none⟩ (.slice none 0 0)).heap[A]? = some (.cells zero4 25 (0, 0))) := (set_any (set_any (set_any (set_any HM10.out.hA 0 _) 1 _) 2 _) 3 _).trans (congrArg (fun c => some (Obj.cells c 25 (0, 0))) (set4 _ _ _ _ _ _ _ _))
          have HBF : Hid (Below w.heap.size w ((((w10.setCell ⟨A, 0, none⟩ (.int .i64 0)).setCell ⟨A, 1, none⟩ (.slice none 0 0)).setCell ⟨A, 2, none⟩ (.slice none 0 0)).setCell ⟨A, 3, none⟩ (.slice none 0 0))) := ((((HM10.out.bel.setCell (p := ⟨A, 0, none⟩) HM10.out.sA _).setCell (p := ⟨A, 1, none⟩) HM10.out.sA _).setCell (p := ⟨A, 2, none⟩) HM10.out.sA _).setCell (p := ⟨A, 3, none⟩) HM10.out.sA _)
          have a0 : w10.cell? ⟨A, 0, none⟩ = some (.int .i64 0) := (cells_at HM10.out.hA 0).trans rfl
          have f0 : w10.frozen? ⟨A, 0, none⟩ = false := frozen_no HM10.out.hA _
          have a1 : w10.cell? ⟨A, 1, none⟩ = some (.slice none 0 0) := (cells_at HM10.out.hA 1).trans rfl
          have f1 : w10.frozen? ⟨A, 1, none⟩ = false := frozen_no HM10.out.hA _
          have a2 : w10.cell? ⟨A, 2, none⟩ = some (.slice none 0 0) := (cells_at HM10.out.hA 2).trans rfl
          have f2 : w10.frozen? ⟨A, 2, none⟩ = false := frozen_no HM10.out.hA _
          have a3 : w10.cell? ⟨A, 3, none⟩ = some (.slice none 0 0) := (cells_at HM10.out.hA 3).trans rfl
          have f3 : w10.frozen? ⟨A, 3, none⟩ = false := frozen_no HM10.out.hA _
          go_wp2
          refine bodyPost_ret (results_cell_row1 rfl _ _ A 25 _ (0, 0) _ rfl HAA.out Try.underlying25 rfl (by kernel_rfl)) rfl ?_
          exact HWO.out _ _ ⟨.inl ⟨by rw [HME.out]; decide, by rw [HME.out]; rfl⟩, HBF.out⟩
        | false =>
          have HME : Hid (moveErr y k = 0) := by show _ = _; exact (HER.out.2.1 HSH.out.symm HK3.out).2 HLV.out.symm
          have s0 : w10.cell? ⟨Z, 0, none⟩ = some (.int .i64 pt) := (cells_at HZ10.out 0).trans rfl
          have s1 : w10.cell? ⟨Z, 1, none⟩ = some (.slice zf lf zcf) := (cells_at HZ10.out 1).trans rfl
          have s2 : w10.cell? ⟨Z, 2, none⟩ = some (.slice zd ld zcd) := (cells_at HZ10.out 2).trans rfl
          have s3 : w10.cell? ⟨Z, 3, none⟩ = some (.slice (some ⟨V, 0, none⟩) ls zcs) := (cells_at HZ10.out 3).trans rfl
          have a0 : w10.cell? ⟨A, 0, none⟩ = some (.int .i64 0) := (cells_at HM10.out.hA 0).trans rfl
          have f0 : w10.frozen? ⟨A, 0, none⟩ = false := frozen_no HM10.out.hA _
          have a1 : w10.cell? ⟨A, 1, none⟩ = some (.slice none 0 0) := (cells_at HM10.out.hA 1).trans rfl
          have f1 : w10.frozen? ⟨A, 1, none⟩ = false := frozen_no HM10.out.hA _
          have a2 : w10.cell? ⟨A, 2, none⟩ = some (.slice none 0 0) := (cells_at HM10.out.hA 2).trans rfl
          have f2 : w10.frozen? ⟨A, 2, none⟩ = false := frozen_no HM10.out.hA _
          have a3 : w10.cell? ⟨A, 3, none⟩ = some (.slice none 0 0) := (cells_at HM10.out.hA 3).trans rfl
          have f3 : w10.frozen? ⟨A, 3, none⟩ = false := frozen_no HM10.out.hA _
          have hs9 : ∀ j, j ≠ A → ((((w10.setCell ⟨A, 0, none⟩ (.int .i64 pt)).setCell ⟨A, 1, none⟩ (.slice zf lf zcf)).setCell ⟨A, 2, none⟩ (.slice zd ld zcd)).setCell ⟨A, 3, none⟩ (.slice (some ⟨V, 0, none⟩) ls zcs)).heap[j]? = w10.heap[j]? := fun j hj => by
            rw [Below.heap_setCell _ _ _ j hj, Below.heap_setCell _ _ _ j hj, Below.heap_setCell _ _ _ j hj, Below.heap_setCell _ _ _ j hj]
          have HAA : Hid (((((w10.setCell ⟨A, 0, none⟩ (.int .i64 pt)).setCell ⟨A, 1, none⟩ (.slice zf lf zcf)).setCell ⟨A, 2, none⟩ (.slice zd ld zcd)).setCell ⟨A, 3, none⟩ (.slice (some ⟨V, 0, none⟩) ls zcs)).heap[A]? = some (.cells #[.int .i64 pt, .slice zf lf zcf, .slice zd ld zcd, .slice (some ⟨V, 0, none⟩) ls zcs] 25 (0, 0))) := (set_any (set_any (set_any (set_any HM10.out.hA 0 _) 1 _) 2 _) 3 _).trans (congrArg (fun c => some (Obj.cells c 25 (0, 0))) (set4 _ _ _ _ _ _ _ _))
          have HBF : Hid (Below w.heap.size w ((((w10.setCell ⟨A, 0, none⟩ (.int .i64 pt)).setCell ⟨A, 1, none⟩ (.slice zf lf zcf)).setCell ⟨A, 2, none⟩ (.slice zd ld zcd)).setCell ⟨A, 3, none⟩ (.slice (some ⟨V, 0, none⟩) ls zcs))) := ((((HM10.out.bel.setCell (p := ⟨A, 0, none⟩) HM10.out.sA _).setCell (p := ⟨A, 1, none⟩) HM10.out.sA _).setCell (p := ⟨A, 2, none⟩) HM10.out.sA _).setCell (p := ⟨A, 3, none⟩) HM10.out.sA _)
          have HX9 : Hid (KeepX w10 ((((w10.setCell ⟨A, 0, none⟩ (.int .i64 pt)).setCell ⟨A, 1, none⟩ (.slice zf lf zcf)).setCell ⟨A, 2, none⟩ (.slice zd ld zcd)).setCell ⟨A, 3, none⟩ (.slice (some ⟨V, 0, none⟩) ls zcs))) := fun j cur e1 fz hj he => hs9 j (fun e => by subst e; rw [HM10.out.hA] at hj; cases hj; simp at he)
          have HYF : Hid (∀ w2, KeepX ((((w10.setCell ⟨A, 0, none⟩ (.int .i64 pt)).setCell ⟨A, 1, none⟩ (.slice zf lf zcf)).setCell ⟨A, 2, none⟩ (.slice zd ld zcd)).setCell ⟨A, 3, none⟩ (.slice (some ⟨V, 0, none⟩) ls zcs)) w2 → YardAt w2 zf zd (some ⟨V, 0, none⟩) zcf zcd zcs (y.turn k)) := fun w2 hk2 => HOT.out _ (own_keepX HO10F.out (HX9.out.trans hk2) (by simp)) (own_keepX HO10R.out (HX9.out.trans hk2) (by simp)) (own_keepX HO10V.out (HX9.out.trans hk2) (by simp))
          clear hs9
          go_wp2
          refine bodyPost_ret (results_cell_row1 rfl _ _ A 25 _ (0, 0) _ rfl HAA.out Try.underlying25 rfl (by kernel_rfl)) rfl ?_
          exact HWO.out _ _ ⟨.inr ⟨HME.out, zf, zd, _, zcf, zcd, zcs, rfl, HYF.out⟩, HBF.out⟩
      · have HK3 := hide' hk3
        have HS9 := hide' (HSO.out w9 zf zd (some ⟨V, 0, none⟩) zcf zcd zcs (HOT.out w9 HO9F.out HO9R.out HO9V.out))
        have s0 : w9.cell? ⟨Z, 0, none⟩ = some (.int .i64 pt) := (cells_at HZ9.out 0).trans rfl
        have s1 : w9.cell? ⟨Z, 1, none⟩ = some (.slice zf lf zcf) := (cells_at HZ9.out 1).trans rfl
        have s2 : w9.cell? ⟨Z, 2, none⟩ = some (.slice zd ld zcd) := (cells_at HZ9.out 2).trans rfl
        have s3 : w9.cell? ⟨Z, 3, none⟩ = some (.slice (some ⟨V, 0, none⟩) ls zcs) := (cells_at HZ9.out 3).trans rfl
        go_wp2_with fail
        refine HS9.out.mono ?_
        rintro e w10 ⟨rfl, hb10⟩
        have HM10 := hide' (HM9.out.more hb10)
        have HZ10 := hide' ((hb10.block Z (Array.getElem?_eq_some_iff.1 HZ9.out).1).trans HZ9.out)
        have HO10F := hide' (own_below HO9F.out hb10 (Nat.le_refl _))
        have HO10R := hide' (own_below HO9R.out hb10 (Nat.le_refl _))
        have HO10V := hide' (own_below HO9V.out hb10 (Nat.le_refl _))
        obtain ⟨lv, hlv⟩ : ∃ x, x = soundB (y.turn k) := ⟨_, rfl⟩
        have HLV := hide' hlv
        rw [← hlv]
        clear hlv hb10 HS9 g0 g3 HO9F HO9R HO9V HZ9 HM9 HB9 s0 s1 s2 s3
        cases lv with
        | true =>
          have HME : Hid (moveErr y k = 0) := by show _ = _; exact (HER.out.2.2 HSH.out.symm HK3.out HNL.out).2 HLV.out.symm
          have s0 : w10.cell? ⟨Z, 0, none⟩ = some (.int .i64 pt) := (cells_at HZ10.out 0).trans rfl
          have s1 : w10.cell? ⟨Z, 1, none⟩ = some (.slice zf lf zcf) := (cells_at HZ10.out 1).trans rfl
          have s2 : w10.cell? ⟨Z, 2, none⟩ = some (.slice zd ld zcd) := (cells_at HZ10.out 2).trans rfl
          have s3 : w10.cell? ⟨Z, 3, none⟩ = some (.slice (some ⟨V, 0, none⟩) ls zcs) := (cells_at HZ10.out 3).trans rfl
          have a0 : w10.cell? ⟨A, 0, none⟩ = some (.int .i64 0) := (cells_at HM10.out.hA 0).trans rfl
          have f0 : w10.frozen? ⟨A, 0, none⟩ = false := frozen_no HM10.out.hA _
          have a1 : w10.cell? ⟨A, 1, none⟩ = some (.slice none 0 0) := (cells_at HM10.out.hA 1).trans rfl
          have f1 : w10.frozen? ⟨A, 1, none⟩ = false := frozen_no HM10.out.hA _
          have a2 : w10.cell? ⟨A, 2, none⟩ = some (.slice none 0 0) := (cells_at HM10.out.hA 2).trans rfl
          have f2 : w10.frozen? ⟨A, 2, none⟩ = false := frozen_no HM10.out.hA _
          have a3 : w10.cell? ⟨A, 3, none⟩ = some (.slice none 0 0) := (cells_at HM10.out.hA 3).trans rfl
          have f3 : w10.frozen? ⟨A, 3, none⟩ = false := frozen_no HM10.out.hA _
          have hs9 : ∀ j, j ≠ A → ((((w10.setCell ⟨A, 0, none⟩ (.int .i64 pt)).setCell ⟨A, 1, none⟩ (.slice zf lf zcf)).setCell ⟨A, 2, none⟩ (.slice zd ld zcd)).setCell ⟨A, 3, none⟩ (.slice (some ⟨V, 0, none⟩) ls zcs)).heap[j]? = w10.heap[j]? := fun j hj => by
            rw [Below.heap_setCell _ _ _ j hj, Below.heap_setCell _ _ _ j hj, Below.heap_setCell _ _ _ j hj, Below.heap_setCell _ _ _ j hj]
          have HAA : Hid (((((w10.setCell ⟨A, 0, none⟩ (.int .i64 pt)).setCell ⟨A, 1, none⟩ (.slice zf lf zcf)).setCell ⟨A, 2, none⟩ (.slice zd ld zcd)).setCell ⟨A, 3, none⟩ (.slice (some ⟨V, 0, none⟩) ls zcs)).heap[A]? = some (.cells #[.int .i64 pt, .slice zf lf zcf, .slice zd ld zcd, .slice (some ⟨V, 0, none⟩) ls zcs] 25 (0, 0))) := (set_any (set_any (set_any (set_any HM10.out.hA 0 _) 1 _) 2 _) 3 _).trans (congrArg (fun c => some (Obj.cells c 25 (0, 0))) (set4 _ _ _ _ _ _ _ _))
          have HBF : Hid (Below w.heap.size w ((((w10.setCell ⟨A, 0, none⟩ (.int .i64 pt)).setCell ⟨A, 1, none⟩ (.slice zf lf zcf)).setCell ⟨A, 2, none⟩ (.slice zd ld zcd)).setCell ⟨A, 3, none⟩ (.slice (some ⟨V, 0, none⟩) ls zcs))) := ((((HM10.out.bel.setCell (p := ⟨A, 0, none⟩) HM10.out.sA _).setCell (p := ⟨A, 1, none⟩) HM10.out.sA _).setCell (p := ⟨A, 2, none⟩) HM10.out.sA _).setCell (p := ⟨A, 3, none⟩) HM10.out.sA _)
          have HX9 : Hid (KeepX w10 ((((w10.setCell ⟨A, 0, none⟩ (.int .i64 pt)).setCell ⟨A, 1, none⟩ (.slice zf lf zcf)).setCell ⟨A, 2, none⟩ (.slice zd ld zcd)).setCell ⟨A, 3, none⟩ (.slice (some ⟨V, 0, none⟩) ls zcs))) := fun j cur e1 fz hj he => hs9 j (fun e => by subst e; rw [HM10.out.hA] at hj; cases hj; simp at he)
          have HYF : Hid (∀ w2, KeepX ((((w10.setCell ⟨A, 0, none⟩ (.int .i64 pt)).setCell ⟨A, 1, none⟩ (.slice zf lf zcf)).setCell ⟨A, 2, none⟩ (.slice zd ld zcd)).setCell ⟨A, 3, none⟩ (.slice (some ⟨V, 0, none⟩) ls zcs)) w2 → YardAt w2 zf zd (some ⟨V, 0, none⟩) zcf zcd zcs (y.turn k)) := fun w2 hk2 => HOT.out _ (own_keepX HO10F.out (HX9.out.trans hk2) (by simp)) (own_keepX HO10R.out (HX9.out.trans hk2) (by simp)) (own_keepX HO10V.out (HX9.out.trans hk2) (by simp))
          clear hs9
          go_wp2
          refine bodyPost_ret (results_cell_row1 rfl _ _ A 25 _ (0, 0) _ rfl HAA.out Try.underlying25 rfl (by kernel_rfl)) rfl ?_
          exact HWO.out _ _ ⟨.inr ⟨HME.out, zf, zd, _, zcf, zcd, zcs, rfl, HYF.out⟩, HBF.out⟩
        | false =>
          have HME : Hid (moveErr y k = 12) := by show _ = _; exact (HER.out.2.2 HSH.out.symm HK3.out HNL.out).1 HLV.out.symm
          have HAA : Hid (((((w10.setCell ⟨A, 0, none⟩ (.int .i64 0)).setCell ⟨A, 1, none⟩ (.slice none 0 0)).setCell ⟨A, 2, none⟩ (.slice none 0 0)).setCell ⟨A, 3, none⟩ (.slice none 0 0)).heap[A]? = some (.cells zero4 25 (0, 0))) := (set_any (set_any (set_any (set_any HM10.out.hA 0 _) 1 _) 2 _) 3 _).trans (congrArg (fun c => some (Obj.cells c 25 (0, 0))) (set4 _ _ _ _ _ _ _ _))
          have HBF : Hid (Below w.heap.size w ((((w10.setCell ⟨A, 0, none⟩ (.int .i64 0)).setCell ⟨A, 1, none⟩ (.slice none 0 0)).setCell ⟨A, 2, none⟩ (.slice none 0 0)).setCell ⟨A, 3, none⟩ (.slice none 0 0))) := ((((HM10.out.bel.setCell (p := ⟨A, 0, none⟩) HM10.out.sA _).setCell (p := ⟨A, 1, none⟩) HM10.out.sA _).setCell (p := ⟨A, 2, none⟩) HM10.out.sA _).setCell (p := ⟨A, 3, none⟩) HM10.out.sA _)
          have a0 : w10.cell? ⟨A, 0, none⟩ = some (.int .i64 0) := (cells_at HM10.out.hA 0).trans rfl
          have f0 : w10.frozen? ⟨A, 0, none⟩ = false := frozen_no HM10.out.hA _
          have a1 : w10.cell? ⟨A, 1, none⟩ = some (.slice none 0 0) := (cells_at HM10.out.hA 1).trans rfl
          have f1 : w10.frozen? ⟨A, 1, none⟩ = false := frozen_no HM10.out.hA _
          have a2 : w10.cell? ⟨A, 2, none⟩ = some (.slice none 0 0) := (cells_at HM10.out.hA 2).trans rfl
          have f2 : w10.frozen? ⟨A, 2, none⟩ = false := frozen_no HM10.out.hA _
          have a3 : w10.cell? ⟨A, 3, none⟩ = some (.slice none 0 0) := (cells_at HM10.out.hA 3).trans rfl
          have f3 : w10.frozen? ⟨A, 3, none⟩ = false := frozen_no HM10.out.hA _
          go_wp2
          refine bodyPost_ret (results_cell_row1 rfl _ _ A 25 _ (0, 0) _ rfl HAA.out Try.underlying25 rfl (by kernel_rfl)) rfl ?_
          exact HWO.out _ _ ⟨.inl ⟨by rw [HME.out]; decide, by rw [HME.out]; rfl⟩, HBF.out⟩
end Go.Proofs.Ytcnoipcpifackah
