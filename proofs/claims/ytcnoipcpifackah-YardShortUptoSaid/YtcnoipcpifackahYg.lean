/- A yard in which devices are moved, in the program. -/
import Derived.Test.YtcnoipcpifackahYf
namespace Go.Proofs.Ytcnoipcpifackah
open Go.RowKit Go.Shelf

set_option maxRecDepth 100000 in
set_option maxHeartbeats 1000000 in
theorem CloneInt_any (l : List Int) (n : Nat) (v : Value) (w : World) (hx : RowAt w v n 1 (ints l)) (hl : n ≤ 1000) :
    Calls Try.prog 21 #[v] w fun e w' => ∃ a c, e = .returned (.slice a n c) ∧ w'.ownsRow w.heap.size 3 1 (.slice a n c) n (ints l) ∧ Below w.heap.size w w' := by
  obtain ⟨i0, hi0, hzz0, hzz1, hzz2⟩ := info_parts Try.info3
  have q22 : ∀ (w : World) (a : Option Addr) (n c n' c' : Nat), (binOp .eql 22 (.slice a n c) (.slice none n' c')).run Try.prog w = .ok (.bool a.isNone) w := fun w a n c n' c' => Lib.run_eql_slice_nil w _ _ a n c n' c' Try.underlying22
  obtain ⟨a, c, rfl⟩ := rowAt_slice hx
  cases a with
  | none =>
    obtain ⟨h1, a', c', ex, h2⟩ := hx
    cases ex
    have h0 : n = 0 := by
      rcases Nat.eq_zero_or_pos n with h | h
      · exact h
      · obtain ⟨b, off, e, _⟩ := h2 0 _ (List.getElem?_eq_getElem (by omega))
        cases e
    subst h0
    have hl0 : ints l = [] := List.length_eq_zero_iff.1 (by simpa using h1)
    rw [hl0]
    clear h1 h2 hl0
    go_enter Try.func21, Try.ntmps21
    go_wp2
    go_ret
    exact ⟨none, 0, rfl, World.ownsRow_nil _ _ _ _, Below.refl _ _⟩
  | some ad =>
    have HA : Hid (∀ o, RowAt (w.alloc o) (.slice (some ad) n c) n 1 (ints l)) := fun o => hx.below (below_al w o) (Nat.le_refl _)
    clear hx
    go_enter Try.func21, Try.ntmps21
    go_wp2_with (at_builtin; refine wpList_append_any _ rfl _ _ 22 rfl w.heap.size 3 i0 _ 1 8 Try.underlying22 hi0 hzz0 hzz1 hzz2 rfl (by decide) _ _ _ rfl (World.ownsRow_made w #[] 0 (Nat.le_refl _) (Nat.zero_le _) (by simp)) _ _ _ rfl (HA.out _) (ints_one l) (by unfold maxLen; omega) (by omega) (by simp) ?_; intro v' w1 hown hgrow; refine Still.go ?_)
    unfold Still
    have HOW := hide' hown
    have hg : (w.alloc (.cells #[] 3)).grownBy w1 (some w.heap.size) := hgrow
    have HB : Hid (Below w.heap.size w w1) := ((Below.refl _ w).alloc (Nat.le_refl _) _).grown hg (by simp) (fun k e => by cases e; exact Nat.le_refl _)
    clear hown hgrow hg
    go_wp2
    go_ret
    have h1 : w1.ownsRow w.heap.size 3 1 v' n (ints l) := by have := HOW.out; simpa using this
    obtain ⟨a, c, rfl⟩ := own_slice h1
    exact ⟨a, c, rfl, h1, HB.out⟩
/-- What startSound answers. -/
def StartO (y : YardM) (af ad as' : Option Addr) (cf cd cs : Nat) (w : World) (e : Ending) (w' : World) : Prop :=
  (((mayYB y && soundB y) = false ∧ e = .returned (.tuple #[.agg zero8, .int .i64 14])) ∨ ((mayYB y && soundB y) = true ∧ ∃ G cg L E D, e = .returned (.tuple #[workV y ⟨af, ad, as', cf, cd, cs, G, cg, L, E, D⟩, .int .i64 0]) ∧ ∀ w2, KeepX w' w2 → YardAt w2 af ad as' cf cd cs y → WorkAt w2 y ⟨af, ad, as', cf, cd, cs, G, cg, L, E, D⟩)) ∧ Below w.heap.size w w'
set_option maxRecDepth 100000 in
set_option maxHeartbeats 2000000 in
theorem startSound_any (y : YardM) (af ad as' : Option Addr) (cf cd cs : Nat) (w : World) (hy : YardAt w af ad as' cf cd cs y) (hf : y.fed.length ≤ 9000000000000000000) (hd : y.drawn.length ≤ 9000000000000000000) (hs : y.devs.length ≤ 9000000000000000000) :
    Calls Try.prog 19 #[.agg #[.int .i64 y.points, .slice af y.fed.length cf, .slice ad y.drawn.length cd, .slice as' y.devs.length cs]] w (StartO y af ad as' cf cd cs w) := by
  have HWO : Hid (∀ e w', (((mayYB y && soundB y) = false ∧ e = .returned (.tuple #[.agg zero8, .int .i64 14])) ∨ ((mayYB y && soundB y) = true ∧ ∃ G cg L E D, e = .returned (.tuple #[workV y ⟨af, ad, as', cf, cd, cs, G, cg, L, E, D⟩, .int .i64 0]) ∧ ∀ w2, KeepX w' w2 → YardAt w2 af ad as' cf cd cs y → WorkAt w2 y ⟨af, ad, as', cf, cd, cs, G, cg, L, E, D⟩)) ∧ Below w.heap.size w w' → StartO y af ad as' cf cd cs w e w') := fun _ _ h => h
  obtain ⟨R, hR⟩ : ∃ R, R = StartO y af ad as' cf cd cs w := ⟨_, rfl⟩
  rw [← hR] at HWO ⊢
  have HMB : Hid (∀ w', Below w.heap.size w w' → Calls Try.prog 28 #[.agg #[.int .i64 y.points, .slice af y.fed.length cf, .slice ad y.drawn.length cd, .slice as' y.devs.length cs]] w' fun e w2 => e = .returned (.bool (mayYB y)) ∧ Below w'.heap.size w' w2) := fun w' hb => mayBe_any y af ad as' cf cd cs w' (hy.below hb (Nat.le_refl _)) hf hd hs
  have HST : Hid (∀ w', MayY y → Below w.heap.size w w' → Calls Try.prog 29 #[.agg #[.int .i64 y.points, .slice af y.fed.length cf, .slice ad y.drawn.length cd, .slice as' y.devs.length cs]] w' fun e w2 => ∃ G cg L E D, e = .returned (.agg #[.int .i64 y.points, .slice af y.fed.length cf, .slice ad y.drawn.length cd, .slice as' y.devs.length cs, .slice (some ⟨G, 0, none⟩) y.n cg, .slice (some ⟨L, 0, none⟩) y.n y.n, .slice (some ⟨E, 0, none⟩) y.n y.n, .slice (some ⟨D, 0, none⟩) y.n y.n]) ∧ (∀ w3, KeepX w2 w3 → YardAt w3 af ad as' cf cd cs y → WorkAt w3 y ⟨af, ad, as', cf, cd, cs, G, cg, L, E, D⟩) ∧ Below w'.heap.size w' w2) := fun w' hm hb => by
    refine (start_any y hm af ad as' cf cd cs w' (hy.below hb (Nat.le_refl _))).mono ?_
    rintro e w2 ⟨G, cg, L, E, D, rfl, h1, h2, h3, h4, hb2⟩
    exact ⟨G, cg, L, E, D, rfl, fun w3 hk hy3 => ⟨hy3, rowAt_of_own (own_keepX h1 hk (by simp)), rowAt_of_own (own_keepX h2 hk (by simp)), rowAt_of_own (own_keepX h3 hk (by simp)), rowAt_of_own (own_keepX h4 hk (by simp))⟩, hb2⟩
  have HSD : Hid (∀ w' G cg L E D, MayY y → WorkAt w' y ⟨af, ad, as', cf, cd, cs, G, cg, L, E, D⟩ → Calls Try.prog 30 #[.agg #[.int .i64 y.points, .slice af y.fed.length cf, .slice ad y.drawn.length cd, .slice as' y.devs.length cs, .slice (some ⟨G, 0, none⟩) y.n cg, .slice (some ⟨L, 0, none⟩) y.n y.n, .slice (some ⟨E, 0, none⟩) y.n y.n, .slice (some ⟨D, 0, none⟩) y.n y.n]] w' fun e w2 => e = .returned (.bool (soundB y)) ∧ Below w'.heap.size w' w2) := fun w' G cg L E D hm hw => sound_any y hm ⟨af, ad, as', cf, cd, cs, G, cg, L, E, D⟩ w' hw
  have HWV : Hid (∀ G cg L E D, workV y ⟨af, ad, as', cf, cd, cs, G, cg, L, E, D⟩ = .agg #[.int .i64 y.points, .slice af y.fed.length cf, .slice ad y.drawn.length cd, .slice as' y.devs.length cs, .slice (some ⟨G, 0, none⟩) y.n cg, .slice (some ⟨L, 0, none⟩) y.n y.n, .slice (some ⟨E, 0, none⟩) y.n y.n, .slice (some ⟨D, 0, none⟩) y.n y.n]) := fun _ _ _ _ _ => rfl
  have HYA : Hid (∀ w', Below w.heap.size w w' → YardAt w' af ad as' cf cd cs y) := fun w' hb => hy.below hb (Nat.le_refl _)
  have HI := hide' (mayYB_iff (y := y))
  obtain ⟨lf, hlf⟩ : ∃ l, l = y.fed.length := ⟨_, rfl⟩
  obtain ⟨ld, hld⟩ : ∃ l, l = y.drawn.length := ⟨_, rfl⟩
  obtain ⟨ls, hls⟩ : ∃ l, l = y.devs.length := ⟨_, rfl⟩
  obtain ⟨pt, hpt⟩ : ∃ p, p = y.points := ⟨_, rfl⟩
  obtain ⟨nn, hnn⟩ : ∃ p, p = y.n := ⟨_, rfl⟩
  obtain ⟨mb, hmb⟩ : ∃ b, b = mayYB y := ⟨_, rfl⟩
  obtain ⟨sb, hsb⟩ : ∃ b, b = soundB y := ⟨_, rfl⟩
  rw [← hlf, ← hld, ← hls, ← hpt] at HMB HST HSD HWV ⊢
  rw [← hnn] at HST HSD HWV
  rw [← hmb] at HMB HI HWO
  rw [← hsb] at HSD HWO
  clear hlf hld hls hpt hnn hmb hsb hf hd hs hy hR
  go_enter Try.func19, Try.ntmps19
  go_upto_region 1 with fail
  have HB0 : Hid (UB w ((w.alloc (.cells #[.int .i64 pt, .slice af lf cf, .slice ad ld cd, .slice as' ls cs] 25)).alloc (.cells #[.int .i64 0, .slice none 0 0, .slice none 0 0, .slice none 0 0, .slice none 0 0, .slice none 0 0, .slice none 0 0, .slice none 0 0] 50)) (w.heap.size + 1) w.heap.size #[.int .i64 pt, .slice af lf cf, .slice ad ld cd, .slice as' ls cs]) := by
    have hA := alloc_new (w.alloc (.cells #[.int .i64 pt, .slice af lf cf, .slice ad ld cd, .slice as' ls cs] 25)) (.cells #[.int .i64 0, .slice none 0 0, .slice none 0 0, .slice none 0 0, .slice none 0 0, .slice none 0 0, .slice none 0 0, .slice none 0 0] 50)
    rw [World.size_alloc] at hA
    exact ⟨hA, (alloc_old _ _ (by simp)).trans (alloc_new _ _), by omega, by omega, (below_al w _).alloc (by simp) _⟩
  obtain ⟨w1, hw1⟩ : ∃ x, x = (w.alloc (.cells #[.int .i64 pt, .slice af lf cf, .slice ad ld cd, .slice as' ls cs] 25)).alloc (.cells #[.int .i64 0, .slice none 0 0, .slice none 0 0, .slice none 0 0, .slice none 0 0, .slice none 0 0, .slice none 0 0, .slice none 0 0] 50) := ⟨_, rfl⟩
  rw [← hw1] at HB0 ⊢
  obtain ⟨A, hA⟩ : ∃ S, S = w.heap.size + 1 := ⟨_, rfl⟩
  rw [← hA] at HB0 ⊢
  obtain ⟨Y, hY⟩ : ∃ S, S = w.heap.size := ⟨_, rfl⟩
  have HB1 : Hid (UB w w1 A Y #[.int .i64 pt, .slice af lf cf, .slice ad ld cd, .slice as' ls cs]) := by rw [hY]; exact HB0
  rw [show (Value.pointer (some { block := w.heap.size, off := 0 })) = Value.pointer (some { block := Y, off := 0 }) by rw [hY]]
  clear hw1 hA hY HB0
  have y0 : w1.cell? ⟨Y, 0, none⟩ = some (.int .i64 pt) := (cells_at HB1.out.hY 0).trans rfl
  have y1 : w1.cell? ⟨Y, 1, none⟩ = some (.slice af lf cf) := (cells_at HB1.out.hY 1).trans rfl
  have y2 : w1.cell? ⟨Y, 2, none⟩ = some (.slice ad ld cd) := (cells_at HB1.out.hY 2).trans rfl
  have y3 : w1.cell? ⟨Y, 3, none⟩ = some (.slice as' ls cs) := (cells_at HB1.out.hY 3).trans rfl
  have HM1 := hide' (HMB.out w1 HB1.out.bel)
  go_wp2_with fail
  refine HM1.out.mono ?_
  rintro e w2 ⟨rfl, hb2⟩
  have HB2 := hide' (HB1.out.more hb2)
  clear hb2 HM1 HMB HB1 y0 y1 y2 y3
  cases mb with
  | false =>
    have HAA : Hid (((((((((w2.setCell ⟨A, 0, none⟩ (.int .i64 0)).setCell ⟨A, 1, none⟩ (.slice none 0 0)).setCell ⟨A, 2, none⟩ (.slice none 0 0)).setCell ⟨A, 3, none⟩ (.slice none 0 0)).setCell ⟨A, 4, none⟩ (.slice none 0 0)).setCell ⟨A, 5, none⟩ (.slice none 0 0)).setCell ⟨A, 6, none⟩ (.slice none 0 0)).setCell ⟨A, 7, none⟩ (.slice none 0 0)).heap[A]? = some (.cells zero8 50 (0, 0))) := (set_any (set_any (set_any (set_any (set_any (set_any (set_any (set_any HB2.out.hA 0 _) 1 _) 2 _) 3 _) 4 _) 5 _) 6 _) 7 _).trans (congrArg (fun c => some (Obj.cells c 50 (0, 0))) (set8 _ _ _ _ _ _ _ _ _ _ _ _ _ _ _ _))
    have HBF : Hid (Below w.heap.size w ((((((((w2.setCell ⟨A, 0, none⟩ (.int .i64 0)).setCell ⟨A, 1, none⟩ (.slice none 0 0)).setCell ⟨A, 2, none⟩ (.slice none 0 0)).setCell ⟨A, 3, none⟩ (.slice none 0 0)).setCell ⟨A, 4, none⟩ (.slice none 0 0)).setCell ⟨A, 5, none⟩ (.slice none 0 0)).setCell ⟨A, 6, none⟩ (.slice none 0 0)).setCell ⟨A, 7, none⟩ (.slice none 0 0))) := ((((((((HB2.out.bel.setCell (p := ⟨A, 0, none⟩) HB2.out.sA _).setCell (p := ⟨A, 1, none⟩) HB2.out.sA _).setCell (p := ⟨A, 2, none⟩) HB2.out.sA _).setCell (p := ⟨A, 3, none⟩) HB2.out.sA _).setCell (p := ⟨A, 4, none⟩) HB2.out.sA _).setCell (p := ⟨A, 5, none⟩) HB2.out.sA _).setCell (p := ⟨A, 6, none⟩) HB2.out.sA _).setCell (p := ⟨A, 7, none⟩) HB2.out.sA _)
    have a0 : w2.cell? ⟨A, 0, none⟩ = some (.int .i64 0) := (cells_at HB2.out.hA 0).trans rfl
    have f0 : w2.frozen? ⟨A, 0, none⟩ = false := frozen_no HB2.out.hA _
    have a1 : w2.cell? ⟨A, 1, none⟩ = some (.slice none 0 0) := (cells_at HB2.out.hA 1).trans rfl
    have f1 : w2.frozen? ⟨A, 1, none⟩ = false := frozen_no HB2.out.hA _
    have a2 : w2.cell? ⟨A, 2, none⟩ = some (.slice none 0 0) := (cells_at HB2.out.hA 2).trans rfl
    have f2 : w2.frozen? ⟨A, 2, none⟩ = false := frozen_no HB2.out.hA _
    have a3 : w2.cell? ⟨A, 3, none⟩ = some (.slice none 0 0) := (cells_at HB2.out.hA 3).trans rfl
    have f3 : w2.frozen? ⟨A, 3, none⟩ = false := frozen_no HB2.out.hA _
    have a4 : w2.cell? ⟨A, 4, none⟩ = some (.slice none 0 0) := (cells_at HB2.out.hA 4).trans rfl
    have f4 : w2.frozen? ⟨A, 4, none⟩ = false := frozen_no HB2.out.hA _
    have a5 : w2.cell? ⟨A, 5, none⟩ = some (.slice none 0 0) := (cells_at HB2.out.hA 5).trans rfl
    have f5 : w2.frozen? ⟨A, 5, none⟩ = false := frozen_no HB2.out.hA _
    have a6 : w2.cell? ⟨A, 6, none⟩ = some (.slice none 0 0) := (cells_at HB2.out.hA 6).trans rfl
    have f6 : w2.frozen? ⟨A, 6, none⟩ = false := frozen_no HB2.out.hA _
    have a7 : w2.cell? ⟨A, 7, none⟩ = some (.slice none 0 0) := (cells_at HB2.out.hA 7).trans rfl
    have f7 : w2.frozen? ⟨A, 7, none⟩ = false := frozen_no HB2.out.hA _
    go_wp2
    refine bodyPost_ret (results_cell_row1 rfl _ _ A 50 _ (0, 0) _ rfl HAA.out Try.underlying50 rfl (by kernel_rfl)) rfl ?_
    exact HWO.out _ _ ⟨.inl ⟨rfl, rfl⟩, HBF.out⟩
  | true =>
    have y0 : w2.cell? ⟨Y, 0, none⟩ = some (.int .i64 pt) := (cells_at HB2.out.hY 0).trans rfl
    have y1 : w2.cell? ⟨Y, 1, none⟩ = some (.slice af lf cf) := (cells_at HB2.out.hY 1).trans rfl
    have y2 : w2.cell? ⟨Y, 2, none⟩ = some (.slice ad ld cd) := (cells_at HB2.out.hY 2).trans rfl
    have y3 : w2.cell? ⟨Y, 3, none⟩ = some (.slice as' ls cs) := (cells_at HB2.out.hY 3).trans rfl
    have HS1 := hide' (HST.out w2 (HI.out.1 rfl) HB2.out.bel)
    have HMAY : Hid (MayY y) := HI.out.1 rfl
    go_wp2_with fail
    refine HS1.out.mono ?_
    rintro e w3 ⟨G, cg, L, E, D, rfl, hwk, hb3⟩
    have HB3 := hide' (HB2.out.more hb3)
    have HWK := hide' hwk
    clear hb3 hwk HS1 HST HB2 y0 y1 y2 y3
    go_upto_region 4 with fail
    have HB4 := hide' (HB3.out.more (below_al w3 (.cells #[.int .i64 pt, .slice af lf cf, .slice ad ld cd, .slice as' ls cs, .slice (some ⟨G, 0, none⟩) nn cg, .slice (some ⟨L, 0, none⟩) nn nn, .slice (some ⟨E, 0, none⟩) nn nn, .slice (some ⟨D, 0, none⟩) nn nn] 50)))
    have HS4 := hide' (alloc_new w3 (.cells #[.int .i64 pt, .slice af lf cf, .slice ad ld cd, .slice as' ls cs, .slice (some ⟨G, 0, none⟩) nn cg, .slice (some ⟨L, 0, none⟩) nn nn, .slice (some ⟨E, 0, none⟩) nn nn, .slice (some ⟨D, 0, none⟩) nn nn] 50))
    have HWK4 : Hid (∀ w5, KeepX (w3.alloc (.cells #[.int .i64 pt, .slice af lf cf, .slice ad ld cd, .slice as' ls cs, .slice (some ⟨G, 0, none⟩) nn cg, .slice (some ⟨L, 0, none⟩) nn nn, .slice (some ⟨E, 0, none⟩) nn nn, .slice (some ⟨D, 0, none⟩) nn nn] 50)) w5 → YardAt w5 af ad as' cf cd cs y → WorkAt w5 y ⟨af, ad, as', cf, cd, cs, G, cg, L, E, D⟩) := fun w5 hk => HWK.out w5 (((KeepE.alloc 50 w3 _).toX (by decide) (by decide) (by decide)).trans hk)
    have HNS : Hid (A < w3.heap.size) := (Array.getElem?_eq_some_iff.1 HB3.out.hA).1
    obtain ⟨w4, hw4⟩ : ∃ x, x = w3.alloc (.cells #[.int .i64 pt, .slice af lf cf, .slice ad ld cd, .slice as' ls cs, .slice (some ⟨G, 0, none⟩) nn cg, .slice (some ⟨L, 0, none⟩) nn nn, .slice (some ⟨E, 0, none⟩) nn nn, .slice (some ⟨D, 0, none⟩) nn nn] 50) := ⟨_, rfl⟩
    obtain ⟨S, hS⟩ : ∃ x, x = w3.heap.size := ⟨_, rfl⟩
    rw [← hw4] at HB4 HS4 HWK4 ⊢
    rw [← hS] at HS4 HNS ⊢
    clear hw4 hS HB3 HWK
    have s0 : w4.cell? ⟨S, 0, none⟩ = some (.int .i64 pt) := (cells_at HS4.out 0).trans rfl
    have s1 : w4.cell? ⟨S, 1, none⟩ = some (.slice af lf cf) := (cells_at HS4.out 1).trans rfl
    have s2 : w4.cell? ⟨S, 2, none⟩ = some (.slice ad ld cd) := (cells_at HS4.out 2).trans rfl
    have s3 : w4.cell? ⟨S, 3, none⟩ = some (.slice as' ls cs) := (cells_at HS4.out 3).trans rfl
    have s4 : w4.cell? ⟨S, 4, none⟩ = some (.slice (some ⟨G, 0, none⟩) nn cg) := (cells_at HS4.out 4).trans rfl
    have s5 : w4.cell? ⟨S, 5, none⟩ = some (.slice (some ⟨L, 0, none⟩) nn nn) := (cells_at HS4.out 5).trans rfl
    have s6 : w4.cell? ⟨S, 6, none⟩ = some (.slice (some ⟨E, 0, none⟩) nn nn) := (cells_at HS4.out 6).trans rfl
    have s7 : w4.cell? ⟨S, 7, none⟩ = some (.slice (some ⟨D, 0, none⟩) nn nn) := (cells_at HS4.out 7).trans rfl
    have HSD1 := hide' (HSD.out w4 G cg L E D HMAY.out (HWK4.out w4 (KeepX.refl _) (HYA.out w4 HB4.out.bel)))
    go_wp2_with fail
    refine HSD1.out.mono ?_
    rintro e w5 ⟨rfl, hb5⟩
    have HB5 := hide' (HB4.out.more hb5)
    have HS5 := hide' ((hb5.block S (Array.getElem?_eq_some_iff.1 HS4.out).1).trans HS4.out)
    have HWK5 : Hid (∀ w6, KeepX w5 w6 → YardAt w6 af ad as' cf cd cs y → WorkAt w6 y ⟨af, ad, as', cf, cd, cs, G, cg, L, E, D⟩) := fun w6 hk => HWK4.out w6 ((KeepX.below hb5 (Nat.le_refl _)).trans hk)
    clear hb5 HSD1 HSD HB4 HS4 HWK4 s0 s1 s2 s3 s4 s5 s6 s7
    cases sb with
    | false =>
      have HAA : Hid (((((((((w5.setCell ⟨A, 0, none⟩ (.int .i64 0)).setCell ⟨A, 1, none⟩ (.slice none 0 0)).setCell ⟨A, 2, none⟩ (.slice none 0 0)).setCell ⟨A, 3, none⟩ (.slice none 0 0)).setCell ⟨A, 4, none⟩ (.slice none 0 0)).setCell ⟨A, 5, none⟩ (.slice none 0 0)).setCell ⟨A, 6, none⟩ (.slice none 0 0)).setCell ⟨A, 7, none⟩ (.slice none 0 0)).heap[A]? = some (.cells zero8 50 (0, 0))) := (set_any (set_any (set_any (set_any (set_any (set_any (set_any (set_any HB5.out.hA 0 _) 1 _) 2 _) 3 _) 4 _) 5 _) 6 _) 7 _).trans (congrArg (fun c => some (Obj.cells c 50 (0, 0))) (set8 _ _ _ _ _ _ _ _ _ _ _ _ _ _ _ _))
      have HBF : Hid (Below w.heap.size w ((((((((w5.setCell ⟨A, 0, none⟩ (.int .i64 0)).setCell ⟨A, 1, none⟩ (.slice none 0 0)).setCell ⟨A, 2, none⟩ (.slice none 0 0)).setCell ⟨A, 3, none⟩ (.slice none 0 0)).setCell ⟨A, 4, none⟩ (.slice none 0 0)).setCell ⟨A, 5, none⟩ (.slice none 0 0)).setCell ⟨A, 6, none⟩ (.slice none 0 0)).setCell ⟨A, 7, none⟩ (.slice none 0 0))) := ((((((((HB5.out.bel.setCell (p := ⟨A, 0, none⟩) HB5.out.sA _).setCell (p := ⟨A, 1, none⟩) HB5.out.sA _).setCell (p := ⟨A, 2, none⟩) HB5.out.sA _).setCell (p := ⟨A, 3, none⟩) HB5.out.sA _).setCell (p := ⟨A, 4, none⟩) HB5.out.sA _).setCell (p := ⟨A, 5, none⟩) HB5.out.sA _).setCell (p := ⟨A, 6, none⟩) HB5.out.sA _).setCell (p := ⟨A, 7, none⟩) HB5.out.sA _)
      have a0 : w5.cell? ⟨A, 0, none⟩ = some (.int .i64 0) := (cells_at HB5.out.hA 0).trans rfl
      have f0 : w5.frozen? ⟨A, 0, none⟩ = false := frozen_no HB5.out.hA _
      have a1 : w5.cell? ⟨A, 1, none⟩ = some (.slice none 0 0) := (cells_at HB5.out.hA 1).trans rfl
      have f1 : w5.frozen? ⟨A, 1, none⟩ = false := frozen_no HB5.out.hA _
      have a2 : w5.cell? ⟨A, 2, none⟩ = some (.slice none 0 0) := (cells_at HB5.out.hA 2).trans rfl
      have f2 : w5.frozen? ⟨A, 2, none⟩ = false := frozen_no HB5.out.hA _
      have a3 : w5.cell? ⟨A, 3, none⟩ = some (.slice none 0 0) := (cells_at HB5.out.hA 3).trans rfl
      have f3 : w5.frozen? ⟨A, 3, none⟩ = false := frozen_no HB5.out.hA _
      have a4 : w5.cell? ⟨A, 4, none⟩ = some (.slice none 0 0) := (cells_at HB5.out.hA 4).trans rfl
      have f4 : w5.frozen? ⟨A, 4, none⟩ = false := frozen_no HB5.out.hA _
      have a5 : w5.cell? ⟨A, 5, none⟩ = some (.slice none 0 0) := (cells_at HB5.out.hA 5).trans rfl
      have f5 : w5.frozen? ⟨A, 5, none⟩ = false := frozen_no HB5.out.hA _
      have a6 : w5.cell? ⟨A, 6, none⟩ = some (.slice none 0 0) := (cells_at HB5.out.hA 6).trans rfl
      have f6 : w5.frozen? ⟨A, 6, none⟩ = false := frozen_no HB5.out.hA _
      have a7 : w5.cell? ⟨A, 7, none⟩ = some (.slice none 0 0) := (cells_at HB5.out.hA 7).trans rfl
      have f7 : w5.frozen? ⟨A, 7, none⟩ = false := frozen_no HB5.out.hA _
      go_wp2
      refine bodyPost_ret (results_cell_row1 rfl _ _ A 50 _ (0, 0) _ rfl HAA.out Try.underlying50 rfl (by kernel_rfl)) rfl ?_
      exact HWO.out _ _ ⟨.inl ⟨rfl, rfl⟩, HBF.out⟩
    | true =>
      have s0 : w5.cell? ⟨S, 0, none⟩ = some (.int .i64 pt) := (cells_at HS5.out 0).trans rfl
      have s1 : w5.cell? ⟨S, 1, none⟩ = some (.slice af lf cf) := (cells_at HS5.out 1).trans rfl
      have s2 : w5.cell? ⟨S, 2, none⟩ = some (.slice ad ld cd) := (cells_at HS5.out 2).trans rfl
      have s3 : w5.cell? ⟨S, 3, none⟩ = some (.slice as' ls cs) := (cells_at HS5.out 3).trans rfl
      have s4 : w5.cell? ⟨S, 4, none⟩ = some (.slice (some ⟨G, 0, none⟩) nn cg) := (cells_at HS5.out 4).trans rfl
      have s5 : w5.cell? ⟨S, 5, none⟩ = some (.slice (some ⟨L, 0, none⟩) nn nn) := (cells_at HS5.out 5).trans rfl
      have s6 : w5.cell? ⟨S, 6, none⟩ = some (.slice (some ⟨E, 0, none⟩) nn nn) := (cells_at HS5.out 6).trans rfl
      have s7 : w5.cell? ⟨S, 7, none⟩ = some (.slice (some ⟨D, 0, none⟩) nn nn) := (cells_at HS5.out 7).trans rfl
      have a0 : w5.cell? ⟨A, 0, none⟩ = some (.int .i64 0) := (cells_at HB5.out.hA 0).trans rfl
      have f0 : w5.frozen? ⟨A, 0, none⟩ = false := frozen_no HB5.out.hA _
      have a1 : w5.cell? ⟨A, 1, none⟩ = some (.slice none 0 0) := (cells_at HB5.out.hA 1).trans rfl
      have f1 : w5.frozen? ⟨A, 1, none⟩ = false := frozen_no HB5.out.hA _
      have a2 : w5.cell? ⟨A, 2, none⟩ = some (.slice none 0 0) := (cells_at HB5.out.hA 2).trans rfl
      have f2 : w5.frozen? ⟨A, 2, none⟩ = false := frozen_no HB5.out.hA _
      have a3 : w5.cell? ⟨A, 3, none⟩ = some (.slice none 0 0) := (cells_at HB5.out.hA 3).trans rfl
      have f3 : w5.frozen? ⟨A, 3, none⟩ = false := frozen_no HB5.out.hA _
      have a4 : w5.cell? ⟨A, 4, none⟩ = some (.slice none 0 0) := (cells_at HB5.out.hA 4).trans rfl
      have f4 : w5.frozen? ⟨A, 4, none⟩ = false := frozen_no HB5.out.hA _
      have a5 : w5.cell? ⟨A, 5, none⟩ = some (.slice none 0 0) := (cells_at HB5.out.hA 5).trans rfl
      have f5 : w5.frozen? ⟨A, 5, none⟩ = false := frozen_no HB5.out.hA _
      have a6 : w5.cell? ⟨A, 6, none⟩ = some (.slice none 0 0) := (cells_at HB5.out.hA 6).trans rfl
      have f6 : w5.frozen? ⟨A, 6, none⟩ = false := frozen_no HB5.out.hA _
      have a7 : w5.cell? ⟨A, 7, none⟩ = some (.slice none 0 0) := (cells_at HB5.out.hA 7).trans rfl
      have f7 : w5.frozen? ⟨A, 7, none⟩ = false := frozen_no HB5.out.hA _
      have hs : ∀ j, j ≠ A → ((((((((w5.setCell ⟨A, 0, none⟩ (.int .i64 pt)).setCell ⟨A, 1, none⟩ (.slice af lf cf)).setCell ⟨A, 2, none⟩ (.slice ad ld cd)).setCell ⟨A, 3, none⟩ (.slice as' ls cs)).setCell ⟨A, 4, none⟩ (.slice (some ⟨G, 0, none⟩) nn cg)).setCell ⟨A, 5, none⟩ (.slice (some ⟨L, 0, none⟩) nn nn)).setCell ⟨A, 6, none⟩ (.slice (some ⟨E, 0, none⟩) nn nn)).setCell ⟨A, 7, none⟩ (.slice (some ⟨D, 0, none⟩) nn nn)).heap[j]? = w5.heap[j]? := fun j hj => by
        rw [Below.heap_setCell _ _ _ j hj, Below.heap_setCell _ _ _ j hj, Below.heap_setCell _ _ _ j hj, Below.heap_setCell _ _ _ j hj, Below.heap_setCell _ _ _ j hj, Below.heap_setCell _ _ _ j hj, Below.heap_setCell _ _ _ j hj, Below.heap_setCell _ _ _ j hj]
      have HBF : Hid (Below w.heap.size w ((((((((w5.setCell ⟨A, 0, none⟩ (.int .i64 pt)).setCell ⟨A, 1, none⟩ (.slice af lf cf)).setCell ⟨A, 2, none⟩ (.slice ad ld cd)).setCell ⟨A, 3, none⟩ (.slice as' ls cs)).setCell ⟨A, 4, none⟩ (.slice (some ⟨G, 0, none⟩) nn cg)).setCell ⟨A, 5, none⟩ (.slice (some ⟨L, 0, none⟩) nn nn)).setCell ⟨A, 6, none⟩ (.slice (some ⟨E, 0, none⟩) nn nn)).setCell ⟨A, 7, none⟩ (.slice (some ⟨D, 0, none⟩) nn nn))) := ((((((((HB5.out.bel.setCell (p := ⟨A, 0, none⟩) HB5.out.sA _).setCell (p := ⟨A, 1, none⟩) HB5.out.sA _).setCell (p := ⟨A, 2, none⟩) HB5.out.sA _).setCell (p := ⟨A, 3, none⟩) HB5.out.sA _).setCell (p := ⟨A, 4, none⟩) HB5.out.sA _).setCell (p := ⟨A, 5, none⟩) HB5.out.sA _).setCell (p := ⟨A, 6, none⟩) HB5.out.sA _).setCell (p := ⟨A, 7, none⟩) HB5.out.sA _)
      have HAA : Hid (((((((((w5.setCell ⟨A, 0, none⟩ (.int .i64 pt)).setCell ⟨A, 1, none⟩ (.slice af lf cf)).setCell ⟨A, 2, none⟩ (.slice ad ld cd)).setCell ⟨A, 3, none⟩ (.slice as' ls cs)).setCell ⟨A, 4, none⟩ (.slice (some ⟨G, 0, none⟩) nn cg)).setCell ⟨A, 5, none⟩ (.slice (some ⟨L, 0, none⟩) nn nn)).setCell ⟨A, 6, none⟩ (.slice (some ⟨E, 0, none⟩) nn nn)).setCell ⟨A, 7, none⟩ (.slice (some ⟨D, 0, none⟩) nn nn)).heap[A]? = some (.cells #[.int .i64 pt, .slice af lf cf, .slice ad ld cd, .slice as' ls cs, .slice (some ⟨G, 0, none⟩) nn cg, .slice (some ⟨L, 0, none⟩) nn nn, .slice (some ⟨E, 0, none⟩) nn nn, .slice (some ⟨D, 0, none⟩) nn nn] 50 (0, 0))) := (set_any (set_any (set_any (set_any (set_any (set_any (set_any (set_any HB5.out.hA 0 _) 1 _) 2 _) 3 _) 4 _) 5 _) 6 _) 7 _).trans (congrArg (fun c => some (Obj.cells c 50 (0, 0))) (set8 _ _ _ _ _ _ _ _ _ _ _ _ _ _ _ _))
      have HWF : Hid (∀ w6, KeepX ((((((((w5.setCell ⟨A, 0, none⟩ (.int .i64 pt)).setCell ⟨A, 1, none⟩ (.slice af lf cf)).setCell ⟨A, 2, none⟩ (.slice ad ld cd)).setCell ⟨A, 3, none⟩ (.slice as' ls cs)).setCell ⟨A, 4, none⟩ (.slice (some ⟨G, 0, none⟩) nn cg)).setCell ⟨A, 5, none⟩ (.slice (some ⟨L, 0, none⟩) nn nn)).setCell ⟨A, 6, none⟩ (.slice (some ⟨E, 0, none⟩) nn nn)).setCell ⟨A, 7, none⟩ (.slice (some ⟨D, 0, none⟩) nn nn)) w6 → YardAt w6 af ad as' cf cd cs y → WorkAt w6 y ⟨af, ad, as', cf, cd, cs, G, cg, L, E, D⟩) := fun w6 hk => HWK5.out w6 (KeepX.trans (fun j cur e1 fz hj he => hs j (fun e => by subst e; rw [HB5.out.hA] at hj; cases hj; simp at he)) hk)
      clear hs HWK5 HB5 HS5
      go_wp2
      refine bodyPost_ret (results_cell_row1 rfl _ _ A 50 _ (0, 0) _ rfl HAA.out Try.underlying50 rfl (by kernel_rfl)) rfl ?_
      exact HWO.out _ _ ⟨.inr ⟨rfl, G, cg, L, E, D, by rw [HWV.out]; rfl, HWF.out⟩, HBF.out⟩
end Go.Proofs.Ytcnoipcpifackah
