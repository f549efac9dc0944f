/- Move, in the program. -/
import Derived.Test.YtcnoipcpifackahYg
namespace Go.Proofs.Ytcnoipcpifackah
open Go.RowKit Go.Shelf

def zero4 : Array Value := #[.int .i64 0, .slice none 0 0, .slice none 0 0, .slice none 0 0]
theorem set4 (b0 b1 b2 b3 x0 x1 x2 x3 : Value) : (((#[b0, b1, b2, b3].setIfInBounds 0 x0).setIfInBounds 1 x1).setIfInBounds 2 x2).setIfInBounds 3 x3 = #[x0, x1, x2, x3] := by simp only [List.setIfInBounds_toArray, List.set_cons_zero, List.set_cons_succ]
/-- What Move answers. -/
def MovedO (y : YardM) (k : Int) (w : World) (e : Ending) (w' : World) : Prop :=
  (((mayYB y && soundB y) = false ∧ e = .returned (.tuple #[.agg zero4, .int .i64 14])) ∨ ((mayYB y && soundB y) = true ∧ (k < 0 ∨ (y.devs.length : Int) ≤ k) ∧ e = .returned (.tuple #[.agg zero4, .int .i64 4])) ∨ ((mayYB y && soundB y) = true ∧ ∃ j : Nat, k = (j : Int) ∧ j < y.devs.length ∧ ((moveErr y j ≠ 0 ∧ e = .returned (.tuple #[.agg zero4, .int .i64 (moveErr y j)])) ∨ (moveErr y j = 0 ∧ ∃ af ad as' cf cd cs, e = .returned (.tuple #[.agg #[.int .i64 y.points, .slice af y.fed.length cf, .slice ad y.drawn.length cd, .slice as' y.devs.length cs], .int .i64 0]) ∧ YardAt w' af ad as' cf cd cs (y.turn j))))) ∧ Below w.heap.size w w'
structure NB (w wr : World) (S A : Nat) (sv : Array Value) : Prop where
  hS : wr.heap[S]? = some (.cells sv 50 (0, 0))
  hA : wr.heap[A]? = some (.cells zero4 25 (0, 0))
  sS : w.heap.size ≤ S
  sA : w.heap.size ≤ A
  bel : Below w.heap.size w wr
theorem NB.more {w wr wr' : World} {S A : Nat} {sv : Array Value} (h : NB w wr S A sv) (hb : Below wr.heap.size wr wr') : NB w wr' S A sv :=
  ⟨(hb.block S (Array.getElem?_eq_some_iff.1 h.hS).1).trans h.hS, (hb.block A (Array.getElem?_eq_some_iff.1 h.hA).1).trans h.hA, h.sS, h.sA, h.bel.trans (hb.mono h.bel.size)⟩
theorem NB.set {w wr : World} {S A j : Nat} {sv : Array Value} {x : Value} (h : NB w wr S A sv) : NB w (wr.setCell ⟨S, j, none⟩ x) S A (sv.setIfInBounds j x) :=
  ⟨set_any h.hS j x, (keep_set h.hS j x A _ _ _ h.hA (by decide)).trans h.hA, h.sS, h.sA, h.bel.setCell (p := ⟨S, j, none⟩) h.sS x⟩
theorem NB.keepX {w wr : World} {S A j : Nat} {sv : Array Value} {x : Value} (h : NB w wr S A sv) : KeepX wr (wr.setCell ⟨S, j, none⟩ x) := (keep_set h.hS j x).toX (by decide) (by decide) (by decide)
theorem rising_small {n : Int} {l : List Int} (h : Rising n l) (hn : n ≤ 1000) : l.length ≤ 1000 := by
  have key : ∀ (i : Nat) (x : Int), l[i]? = some x → (i : Int) ≤ x := by
    intro i
    induction i with
    | zero => intro x hx; exact (h 0 x (List.getElem?_eq_some_iff.1 hx).1 hx).1
    | succ i ih =>
      intro x hx
      have hlt := (List.getElem?_eq_some_iff.1 hx).1
      have h1 := ih l[i] (List.getElem?_eq_getElem (by omega))
      have h2 := (h (i + 1) x hlt hx).2.2 l[i] (by omega) (List.getElem?_eq_getElem (by omega))
      omega
  rcases Nat.eq_zero_or_pos l.length with h0 | h0
  · omega
  · have h1 := List.getElem?_eq_getElem (l := l) (i := l.length - 1) (by omega)
    have h2 := key _ _ h1
    have h3 := (h _ _ (by omega) h1).2.1
    omega
theorem CloneNil_any (w : World) : Calls Try.prog 21 #[.slice none 0 0] w fun e w' => e = .returned (.slice none 0 0) ∧ w' = w := by
  have q22 : ∀ (w : World) (a : Option Addr) (n c n' c' : Nat), (binOp .eql 22 (.slice a n c) (.slice none n' c')).run Try.prog w = .ok (.bool a.isNone) w := fun w a n c n' c' => Lib.run_eql_slice_nil w _ _ a n c n' c' Try.underlying22
  go_enter Try.func21, Try.ntmps21
  go_wp2
  go_ret
  exact ⟨rfl, rfl⟩
set_option maxRecDepth 100000 in
set_option maxHeartbeats 2000000 in
theorem Move_any (y : YardM) (k : Int) (af ad as' : Option Addr) (cf cd cs : Nat) (w : World) (hy : YardAt w af ad as' cf cd cs y) (hf : y.fed.length ≤ 9000000000000000000) (hd : y.drawn.length ≤ 9000000000000000000) (hs : y.devs.length ≤ 9000000000000000000) :
    Calls Try.prog 7 #[.agg #[.int .i64 y.points, .slice af y.fed.length cf, .slice ad y.drawn.length cd, .slice as' y.devs.length cs], .int .i64 k] w (MovedO y k w) := by
  have HWO : Hid (∀ e w', (((mayYB y && soundB y) = false ∧ e = .returned (.tuple #[.agg zero4, .int .i64 14])) ∨ ((mayYB y && soundB y) = true ∧ (k < 0 ∨ (y.devs.length : Int) ≤ k) ∧ e = .returned (.tuple #[.agg zero4, .int .i64 4])) ∨ ((mayYB y && soundB y) = true ∧ ∃ j : Nat, k = (j : Int) ∧ j < y.devs.length ∧ ((moveErr y j ≠ 0 ∧ e = .returned (.tuple #[.agg zero4, .int .i64 (moveErr y j)])) ∨ (moveErr y j = 0 ∧ ∃ af ad as' cf cd cs, e = .returned (.tuple #[.agg #[.int .i64 y.points, .slice af y.fed.length cf, .slice ad y.drawn.length cd, .slice as' y.devs.length cs], .int .i64 0]) ∧ YardAt w' af ad as' cf cd cs (y.turn j))))) ∧ Below w.heap.size w w' → MovedO y k w e w') := fun _ _ h => h
  obtain ⟨R, hR⟩ : ∃ R, R = MovedO y k w := ⟨_, rfl⟩
  rw [← hR] at HWO ⊢
  have HSS : Hid (∀ w', Below w.heap.size w w' → Calls Try.prog 19 #[.agg #[.int .i64 y.points, .slice af y.fed.length cf, .slice ad y.drawn.length cd, .slice as' y.devs.length cs]] w' (StartO y af ad as' cf cd cs w')) := fun w' hb => startSound_any y af ad as' cf cd cs w' (hy.below hb (Nat.le_refl _)) hf hd hs
  have HYA : Hid (∀ w', Below w.heap.size w w' → YardAt w' af ad as' cf cd cs y) := fun w' hb => hy.below hb (Nat.le_refl _)
  have HI := hide' (mayYB_iff (y := y))
  have HMV : Hid (∀ w' (j : Nat) G cg L E D, MayY y → WorkAt w' y ⟨af, ad, as', cf, cd, cs, G, cg, L, E, D⟩ → j < y.devs.length → Calls Try.prog 20 #[workV y ⟨af, ad, as', cf, cd, cs, G, cg, L, E, D⟩, .int .i64 j] w' (MoveO y ⟨af, ad, as', cf, cd, cs, G, cg, L, E, D⟩ j w')) := fun w' j G cg L E D hm hw hj => move_any y hm ⟨af, ad, as', cf, cd, cs, G, cg, L, E, D⟩ j w' hw hj
  have HWV : Hid (∀ G cg L E D, workV y ⟨af, ad, as', cf, cd, cs, G, cg, L, E, D⟩ = .agg #[.int .i64 y.points, .slice af y.fed.length cf, .slice ad y.drawn.length cd, .slice as' y.devs.length cs, .slice (some ⟨G, 0, none⟩) y.n cg, .slice (some ⟨L, 0, none⟩) y.n y.n, .slice (some ⟨E, 0, none⟩) y.n y.n, .slice (some ⟨D, 0, none⟩) y.n y.n]) := fun _ _ _ _ _ => rfl
  have HWQ : Hid (∀ (j : Nat) (q : Places), workV (y.turn j) q = .agg #[.int .i64 y.points, .slice q.af y.fed.length q.cf, .slice q.ad y.drawn.length q.cd, .slice q.as' y.devs.length q.cs, .slice (some ⟨q.G, 0, none⟩) y.n q.cg, .slice (some ⟨q.L, 0, none⟩) y.n y.n, .slice (some ⟨q.E, 0, none⟩) y.n y.n, .slice (some ⟨q.D, 0, none⟩) y.n y.n]) := fun j q => by
    unfold workV
    rw [turn_len, turn_n]
    rfl
  have HZ : Hid (zero8 = #[.int .i64 0, .slice none 0 0, .slice none 0 0, .slice none 0 0, .slice none 0 0, .slice none 0 0, .slice none 0 0, .slice none 0 0]) := rfl
  have HLEN : Hid (∀ n : Nat, MayY y → y.fed.length ≤ 1000 ∧ y.drawn.length ≤ 1000) := fun _ hm => ⟨rising_small hm.f (by have := hm.p; omega), rising_small hm.w (by have := hm.p; omega)⟩
  obtain ⟨lf, hlf⟩ : ∃ l, l = y.fed.length := ⟨_, rfl⟩
  obtain ⟨ld, hld⟩ : ∃ l, l = y.drawn.length := ⟨_, rfl⟩
  obtain ⟨ls, hls⟩ : ∃ l, l = y.devs.length := ⟨_, rfl⟩
  obtain ⟨pt, hpt⟩ : ∃ p, p = y.points := ⟨_, rfl⟩
  obtain ⟨nn, hnn⟩ : ∃ p, p = y.n := ⟨_, rfl⟩
  have HLF := hide' hlf
  have HLD := hide' hld
  have HLS := hide' hls
  have HPT := hide' hpt
  rw [← hlf, ← hld, ← hls, ← hpt] at HSS HWV HWQ HWO ⊢
  rw [← hnn] at HWV HWQ
  rw [← hls] at HMV hs
  rw [← hlf, ← hld] at HLEN
  clear hlf hld hls hpt hnn hf hd hy hR
  go_enter Try.func7, Try.ntmps7
  go_upto_region 1 with fail
  have HA0 : Hid (((w.alloc (.cells #[.int .i64 pt, .slice af lf cf, .slice ad ld cd, .slice as' ls cs] 25)).alloc (.cells #[.int .i64 0, .slice none 0 0, .slice none 0 0, .slice none 0 0] 25)).heap[w.heap.size + 1]? = some (.cells zero4 25 (0, 0)) ∧ ((w.alloc (.cells #[.int .i64 pt, .slice af lf cf, .slice ad ld cd, .slice as' ls cs] 25)).alloc (.cells #[.int .i64 0, .slice none 0 0, .slice none 0 0, .slice none 0 0] 25)).heap[w.heap.size]? = some (.cells #[.int .i64 pt, .slice af lf cf, .slice ad ld cd, .slice as' ls cs] 25 (0, 0)) ∧ Below w.heap.size w ((w.alloc (.cells #[.int .i64 pt, .slice af lf cf, .slice ad ld cd, .slice as' ls cs] 25)).alloc (.cells #[.int .i64 0, .slice none 0 0, .slice none 0 0, .slice none 0 0] 25)) ∧ w.heap.size ≤ w.heap.size + 1) := by
    have hA := alloc_new (w.alloc (.cells #[.int .i64 pt, .slice af lf cf, .slice ad ld cd, .slice as' ls cs] 25)) (.cells #[.int .i64 0, .slice none 0 0, .slice none 0 0, .slice none 0 0] 25)
    rw [World.size_alloc] at hA
    exact ⟨hA, (alloc_old _ _ (by simp)).trans (alloc_new _ _), (below_al w _).alloc (by simp) _, by omega⟩
  obtain ⟨w1, hw1⟩ : ∃ x, x = (w.alloc (.cells #[.int .i64 pt, .slice af lf cf, .slice ad ld cd, .slice as' ls cs] 25)).alloc (.cells #[.int .i64 0, .slice none 0 0, .slice none 0 0, .slice none 0 0] 25) := ⟨_, rfl⟩
  rw [← hw1] at HA0 ⊢
  obtain ⟨A, hA⟩ : ∃ S, S = w.heap.size + 1 := ⟨_, rfl⟩
  rw [← hA] at HA0 ⊢
  obtain ⟨Y, hY⟩ : ∃ S, S = w.heap.size := ⟨_, rfl⟩
  have HA1 : Hid (w1.heap[A]? = some (.cells zero4 25 (0, 0)) ∧ w1.heap[Y]? = some (.cells #[.int .i64 pt, .slice af lf cf, .slice ad ld cd, .slice as' ls cs] 25 (0, 0)) ∧ Below w.heap.size w w1 ∧ w.heap.size ≤ A) := by rw [hY]; exact HA0
  rw [show (Value.pointer (some { block := w.heap.size, off := 0 })) = Value.pointer (some { block := Y, off := 0 }) by rw [hY]]
  clear hw1 hA hY HA0
  have y0 : w1.cell? ⟨Y, 0, none⟩ = some (.int .i64 pt) := (cells_at HA1.out.2.1 0).trans rfl
  have y1 : w1.cell? ⟨Y, 1, none⟩ = some (.slice af lf cf) := (cells_at HA1.out.2.1 1).trans rfl
  have y2 : w1.cell? ⟨Y, 2, none⟩ = some (.slice ad ld cd) := (cells_at HA1.out.2.1 2).trans rfl
  have y3 : w1.cell? ⟨Y, 3, none⟩ = some (.slice as' ls cs) := (cells_at HA1.out.2.1 3).trans rfl
  have HS1 := hide' (HSS.out w1 HA1.out.2.2.1)
  go_wp2_with fail
  refine HS1.out.mono ?_
  intro e w2 hso
  obtain ⟨hso, hb2⟩ := hso
  have HA2 : Hid (w2.heap[A]? = some (.cells zero4 25 (0, 0)) ∧ w2.heap[Y]? = some (.cells #[.int .i64 pt, .slice af lf cf, .slice ad ld cd, .slice as' ls cs] 25 (0, 0)) ∧ Below w.heap.size w w2 ∧ w.heap.size ≤ A) := ⟨(hb2.block A (Array.getElem?_eq_some_iff.1 HA1.out.1).1).trans HA1.out.1, (hb2.block Y (Array.getElem?_eq_some_iff.1 HA1.out.2.1).1).trans HA1.out.2.1, HA1.out.2.2.1.trans (hb2.mono HA1.out.2.2.1.size), HA1.out.2.2.2⟩
  clear hb2 HS1 HSS HA1 y0 y1 y2 y3
  rcases hso with ⟨hno, rfl⟩ | ⟨hyes, G, cg, L, E, D, rfl, hwk⟩
  · have HNO := hide' hno
    clear hno
    rw [HZ.out]
    go_upto_region 2 with fail
    have HN3 : Hid (NB w (w2.alloc (.cells #[.int .i64 0, .slice none 0 0, .slice none 0 0, .slice none 0 0, .slice none 0 0, .slice none 0 0, .slice none 0 0, .slice none 0 0] 50)) w2.heap.size A #[.int .i64 0, .slice none 0 0, .slice none 0 0, .slice none 0 0, .slice none 0 0, .slice none 0 0, .slice none 0 0, .slice none 0 0]) := ⟨alloc_new _ _, (alloc_old _ _ (Array.getElem?_eq_some_iff.1 HA2.out.1).1).trans HA2.out.1, HA2.out.2.2.1.size, HA2.out.2.2.2, HA2.out.2.2.1.alloc HA2.out.2.2.1.size _⟩
    have HY3 : Hid ((w2.alloc (.cells #[.int .i64 0, .slice none 0 0, .slice none 0 0, .slice none 0 0, .slice none 0 0, .slice none 0 0, .slice none 0 0, .slice none 0 0] 50)).heap[Y]? = some (.cells #[.int .i64 pt, .slice af lf cf, .slice ad ld cd, .slice as' ls cs] 25 (0, 0))) := (alloc_old _ _ (Array.getElem?_eq_some_iff.1 HA2.out.2.1).1).trans HA2.out.2.1
    obtain ⟨w3, hw3⟩ : ∃ x, x = w2.alloc (.cells #[.int .i64 0, .slice none 0 0, .slice none 0 0, .slice none 0 0, .slice none 0 0, .slice none 0 0, .slice none 0 0, .slice none 0 0] 50) := ⟨_, rfl⟩
    obtain ⟨S, hS⟩ : ∃ x, x = w2.heap.size := ⟨_, rfl⟩
    rw [← hw3] at HN3 HY3 ⊢
    rw [← hS] at HN3 ⊢
    clear hw3 hS HA2
    have HAA : Hid (((((w3.setCell ⟨A, 0, none⟩ (.int .i64 0)).setCell ⟨A, 1, none⟩ (.slice none 0 0)).setCell ⟨A, 2, none⟩ (.slice none 0 0)).setCell ⟨A, 3, none⟩ (.slice none 0 0)).heap[A]? = some (.cells zero4 25 (0, 0))) := (set_any (set_any (set_any (set_any HN3.out.hA 0 _) 1 _) 2 _) 3 _).trans (congrArg (fun c => some (Obj.cells c 25 (0, 0))) (set4 _ _ _ _ _ _ _ _))
    have HBF : Hid (Below w.heap.size w ((((w3.setCell ⟨A, 0, none⟩ (.int .i64 0)).setCell ⟨A, 1, none⟩ (.slice none 0 0)).setCell ⟨A, 2, none⟩ (.slice none 0 0)).setCell ⟨A, 3, none⟩ (.slice none 0 0))) := ((((HN3.out.bel.setCell (p := ⟨A, 0, none⟩) HN3.out.sA _).setCell (p := ⟨A, 1, none⟩) HN3.out.sA _).setCell (p := ⟨A, 2, none⟩) HN3.out.sA _).setCell (p := ⟨A, 3, none⟩) HN3.out.sA _)
    have a0 : w3.cell? ⟨A, 0, none⟩ = some (.int .i64 0) := (cells_at HN3.out.hA 0).trans rfl
    have f0 : w3.frozen? ⟨A, 0, none⟩ = false := frozen_no HN3.out.hA _
    have a1 : w3.cell? ⟨A, 1, none⟩ = some (.slice none 0 0) := (cells_at HN3.out.hA 1).trans rfl
    have f1 : w3.frozen? ⟨A, 1, none⟩ = false := frozen_no HN3.out.hA _
    have a2 : w3.cell? ⟨A, 2, none⟩ = some (.slice none 0 0) := (cells_at HN3.out.hA 2).trans rfl
    have f2 : w3.frozen? ⟨A, 2, none⟩ = false := frozen_no HN3.out.hA _
    have a3 : w3.cell? ⟨A, 3, none⟩ = some (.slice none 0 0) := (cells_at HN3.out.hA 3).trans rfl
    have f3 : w3.frozen? ⟨A, 3, none⟩ = false := frozen_no HN3.out.hA _
    go_wp2
    refine bodyPost_ret (results_cell_row1 rfl _ _ A 25 _ (0, 0) _ rfl HAA.out Try.underlying25 rfl (by kernel_rfl)) rfl ?_
    exact HWO.out _ _ ⟨.inl ⟨HNO.out, rfl⟩, HBF.out⟩
  · have HYES := hide' hyes
    have HMAY : Hid (MayY y) := HI.out.1 (by have := HYES.out; rw [Bool.and_eq_true] at this; exact this.1)
    rw [HWV.out]
    clear hyes
    go_upto_region 2 with fail
    have HN3 : Hid (NB w (w2.alloc (.cells #[.int .i64 pt, .slice af lf cf, .slice ad ld cd, .slice as' ls cs, .slice (some ⟨G, 0, none⟩) nn cg, .slice (some ⟨L, 0, none⟩) nn nn, .slice (some ⟨E, 0, none⟩) nn nn, .slice (some ⟨D, 0, none⟩) nn nn] 50)) w2.heap.size A #[.int .i64 pt, .slice af lf cf, .slice ad ld cd, .slice as' ls cs, .slice (some ⟨G, 0, none⟩) nn cg, .slice (some ⟨L, 0, none⟩) nn nn, .slice (some ⟨E, 0, none⟩) nn nn, .slice (some ⟨D, 0, none⟩) nn nn]) := ⟨alloc_new _ _, (alloc_old _ _ (Array.getElem?_eq_some_iff.1 HA2.out.1).1).trans HA2.out.1, HA2.out.2.2.1.size, HA2.out.2.2.2, HA2.out.2.2.1.alloc HA2.out.2.2.1.size _⟩
    have HY3 : Hid ((w2.alloc (.cells #[.int .i64 pt, .slice af lf cf, .slice ad ld cd, .slice as' ls cs, .slice (some ⟨G, 0, none⟩) nn cg, .slice (some ⟨L, 0, none⟩) nn nn, .slice (some ⟨E, 0, none⟩) nn nn, .slice (some ⟨D, 0, none⟩) nn nn] 50)).heap[Y]? = some (.cells #[.int .i64 pt, .slice af lf cf, .slice ad ld cd, .slice as' ls cs] 25 (0, 0))) := (alloc_old _ _ (Array.getElem?_eq_some_iff.1 HA2.out.2.1).1).trans HA2.out.2.1
    have HWK3 : Hid (WorkAt (w2.alloc (.cells #[.int .i64 pt, .slice af lf cf, .slice ad ld cd, .slice as' ls cs, .slice (some ⟨G, 0, none⟩) nn cg, .slice (some ⟨L, 0, none⟩) nn nn, .slice (some ⟨E, 0, none⟩) nn nn, .slice (some ⟨D, 0, none⟩) nn nn] 50)) y ⟨af, ad, as', cf, cd, cs, G, cg, L, E, D⟩) := hwk _ ((KeepE.alloc 50 w2 _).toX (by decide) (by decide) (by decide)) (HYA.out _ (HA2.out.2.2.1.alloc HA2.out.2.2.1.size _))
    obtain ⟨w3, hw3⟩ : ∃ x, x = w2.alloc (.cells #[.int .i64 pt, .slice af lf cf, .slice ad ld cd, .slice as' ls cs, .slice (some ⟨G, 0, none⟩) nn cg, .slice (some ⟨L, 0, none⟩) nn nn, .slice (some ⟨E, 0, none⟩) nn nn, .slice (some ⟨D, 0, none⟩) nn nn] 50) := ⟨_, rfl⟩
    obtain ⟨S, hS⟩ : ∃ x, x = w2.heap.size := ⟨_, rfl⟩
    rw [← hw3] at HN3 HY3 HWK3 ⊢
    rw [← hS] at HN3 ⊢
    clear hw3 hS HA2
    clear hwk
    have y3 : w3.cell? ⟨Y, 3, none⟩ = some (.slice as' ls cs) := (cells_at HY3.out 3).trans rfl
    by_cases hk0 : k < 0
    · have HK0 := hide' hk0
      have HAA : Hid (((((w3.setCell ⟨A, 0, none⟩ (.int .i64 0)).setCell ⟨A, 1, none⟩ (.slice none 0 0)).setCell ⟨A, 2, none⟩ (.slice none 0 0)).setCell ⟨A, 3, none⟩ (.slice none 0 0)).heap[A]? = some (.cells zero4 25 (0, 0))) := (set_any (set_any (set_any (set_any HN3.out.hA 0 _) 1 _) 2 _) 3 _).trans (congrArg (fun c => some (Obj.cells c 25 (0, 0))) (set4 _ _ _ _ _ _ _ _))
      have HBF : Hid (Below w.heap.size w ((((w3.setCell ⟨A, 0, none⟩ (.int .i64 0)).setCell ⟨A, 1, none⟩ (.slice none 0 0)).setCell ⟨A, 2, none⟩ (.slice none 0 0)).setCell ⟨A, 3, none⟩ (.slice none 0 0))) := ((((HN3.out.bel.setCell (p := ⟨A, 0, none⟩) HN3.out.sA _).setCell (p := ⟨A, 1, none⟩) HN3.out.sA _).setCell (p := ⟨A, 2, none⟩) HN3.out.sA _).setCell (p := ⟨A, 3, none⟩) HN3.out.sA _)
      have a0 : w3.cell? ⟨A, 0, none⟩ = some (.int .i64 0) := (cells_at HN3.out.hA 0).trans rfl
      have f0 : w3.frozen? ⟨A, 0, none⟩ = false := frozen_no HN3.out.hA _
      have a1 : w3.cell? ⟨A, 1, none⟩ = some (.slice none 0 0) := (cells_at HN3.out.hA 1).trans rfl
      have f1 : w3.frozen? ⟨A, 1, none⟩ = false := frozen_no HN3.out.hA _
      have a2 : w3.cell? ⟨A, 2, none⟩ = some (.slice none 0 0) := (cells_at HN3.out.hA 2).trans rfl
      have f2 : w3.frozen? ⟨A, 2, none⟩ = false := frozen_no HN3.out.hA _
      have a3 : w3.cell? ⟨A, 3, none⟩ = some (.slice none 0 0) := (cells_at HN3.out.hA 3).trans rfl
      have f3 : w3.frozen? ⟨A, 3, none⟩ = false := frozen_no HN3.out.hA _
      go_wp2
      refine bodyPost_ret (results_cell_row1 rfl _ _ A 25 _ (0, 0) _ rfl HAA.out Try.underlying25 rfl (by kernel_rfl)) rfl ?_
      exact HWO.out _ _ ⟨.inr (.inl ⟨HYES.out, .inl HK0.out, rfl⟩), HBF.out⟩
    by_cases hk1 : (ls : Int) ≤ k
    · have HK1 := hide' hk1
      have HAA : Hid (((((w3.setCell ⟨A, 0, none⟩ (.int .i64 0)).setCell ⟨A, 1, none⟩ (.slice none 0 0)).setCell ⟨A, 2, none⟩ (.slice none 0 0)).setCell ⟨A, 3, none⟩ (.slice none 0 0)).heap[A]? = some (.cells zero4 25 (0, 0))) := (set_any (set_any (set_any (set_any HN3.out.hA 0 _) 1 _) 2 _) 3 _).trans (congrArg (fun c => some (Obj.cells c 25 (0, 0))) (set4 _ _ _ _ _ _ _ _))
      have HBF : Hid (Below w.heap.size w ((((w3.setCell ⟨A, 0, none⟩ (.int .i64 0)).setCell ⟨A, 1, none⟩ (.slice none 0 0)).setCell ⟨A, 2, none⟩ (.slice none 0 0)).setCell ⟨A, 3, none⟩ (.slice none 0 0))) := ((((HN3.out.bel.setCell (p := ⟨A, 0, none⟩) HN3.out.sA _).setCell (p := ⟨A, 1, none⟩) HN3.out.sA _).setCell (p := ⟨A, 2, none⟩) HN3.out.sA _).setCell (p := ⟨A, 3, none⟩) HN3.out.sA _)
      have a0 : w3.cell? ⟨A, 0, none⟩ = some (.int .i64 0) := (cells_at HN3.out.hA 0).trans rfl
      have f0 : w3.frozen? ⟨A, 0, none⟩ = false := frozen_no HN3.out.hA _
      have a1 : w3.cell? ⟨A, 1, none⟩ = some (.slice none 0 0) := (cells_at HN3.out.hA 1).trans rfl
      have f1 : w3.frozen? ⟨A, 1, none⟩ = false := frozen_no HN3.out.hA _
      have a2 : w3.cell? ⟨A, 2, none⟩ = some (.slice none 0 0) := (cells_at HN3.out.hA 2).trans rfl
      have f2 : w3.frozen? ⟨A, 2, none⟩ = false := frozen_no HN3.out.hA _
      have a3 : w3.cell? ⟨A, 3, none⟩ = some (.slice none 0 0) := (cells_at HN3.out.hA 3).trans rfl
      have f3 : w3.frozen? ⟨A, 3, none⟩ = false := frozen_no HN3.out.hA _
      go_wp2
      refine bodyPost_ret (results_cell_row1 rfl _ _ A 25 _ (0, 0) _ rfl HAA.out Try.underlying25 rfl (by kernel_rfl)) rfl ?_
      exact HWO.out _ _ ⟨.inr (.inl ⟨HYES.out, .inr HK1.out, rfl⟩), HBF.out⟩
    obtain ⟨j, rfl⟩ : ∃ j : Nat, k = (j : Int) := ⟨k.toNat, by omega⟩
    have hjl : j < ls := by omega
    have s0 : w3.cell? ⟨S, 0, none⟩ = some (.int .i64 pt) := (cells_at HN3.out.hS 0).trans rfl
    have s1 : w3.cell? ⟨S, 1, none⟩ = some (.slice af lf cf) := (cells_at HN3.out.hS 1).trans rfl
    have s2 : w3.cell? ⟨S, 2, none⟩ = some (.slice ad ld cd) := (cells_at HN3.out.hS 2).trans rfl
    have s3 : w3.cell? ⟨S, 3, none⟩ = some (.slice as' ls cs) := (cells_at HN3.out.hS 3).trans rfl
    have s4 : w3.cell? ⟨S, 4, none⟩ = some (.slice (some ⟨G, 0, none⟩) nn cg) := (cells_at HN3.out.hS 4).trans rfl
    have s5 : w3.cell? ⟨S, 5, none⟩ = some (.slice (some ⟨L, 0, none⟩) nn nn) := (cells_at HN3.out.hS 5).trans rfl
    have s6 : w3.cell? ⟨S, 6, none⟩ = some (.slice (some ⟨E, 0, none⟩) nn nn) := (cells_at HN3.out.hS 6).trans rfl
    have s7 : w3.cell? ⟨S, 7, none⟩ = some (.slice (some ⟨D, 0, none⟩) nn nn) := (cells_at HN3.out.hS 7).trans rfl
    have HM3 := hide' (HMV.out w3 j G cg L E D HMAY.out HWK3.out hjl)
    rw [HWV.out] at HM3
    go_wp2_with fail
    refine HM3.out.mono ?_
    intro e w4 hmo
    obtain ⟨hmo, hb4⟩ := hmo
    have HN4 := hide' (HN3.out.more hb4)
    clear hb4 HM3 HN3 HY3 y3 HMV s0 s1 s2 s3 s4 s5 s6 s7
    rcases hmo with ⟨hne, rfl⟩ | ⟨h0e, q, rfl, hwq⟩
    · have HNE := hide' hne
      clear hne
      rw [HZ.out]
      have s0 : w4.cell? ⟨S, 0, none⟩ = some (.int .i64 pt) := (cells_at HN4.out.hS 0).trans rfl
      have g0 : w4.frozen? ⟨S, 0, none⟩ = false := frozen_no HN4.out.hS _
      have s1 : w4.cell? ⟨S, 1, none⟩ = some (.slice af lf cf) := (cells_at HN4.out.hS 1).trans rfl
      have g1 : w4.frozen? ⟨S, 1, none⟩ = false := frozen_no HN4.out.hS _
      have s2 : w4.cell? ⟨S, 2, none⟩ = some (.slice ad ld cd) := (cells_at HN4.out.hS 2).trans rfl
      have g2 : w4.frozen? ⟨S, 2, none⟩ = false := frozen_no HN4.out.hS _
      have s3 : w4.cell? ⟨S, 3, none⟩ = some (.slice as' ls cs) := (cells_at HN4.out.hS 3).trans rfl
      have g3 : w4.frozen? ⟨S, 3, none⟩ = false := frozen_no HN4.out.hS _
      have s4 : w4.cell? ⟨S, 4, none⟩ = some (.slice (some ⟨G, 0, none⟩) nn cg) := (cells_at HN4.out.hS 4).trans rfl
      have g4 : w4.frozen? ⟨S, 4, none⟩ = false := frozen_no HN4.out.hS _
      have s5 : w4.cell? ⟨S, 5, none⟩ = some (.slice (some ⟨L, 0, none⟩) nn nn) := (cells_at HN4.out.hS 5).trans rfl
      have g5 : w4.frozen? ⟨S, 5, none⟩ = false := frozen_no HN4.out.hS _
      have s6 : w4.cell? ⟨S, 6, none⟩ = some (.slice (some ⟨E, 0, none⟩) nn nn) := (cells_at HN4.out.hS 6).trans rfl
      have g6 : w4.frozen? ⟨S, 6, none⟩ = false := frozen_no HN4.out.hS _
      have s7 : w4.cell? ⟨S, 7, none⟩ = some (.slice (some ⟨D, 0, none⟩) nn nn) := (cells_at HN4.out.hS 7).trans rfl
      have g7 : w4.frozen? ⟨S, 7, none⟩ = false := frozen_no HN4.out.hS _
      go_upto_region 7 with fail
      have hs5 : ∀ j, j ≠ S → ((((((((w4.setCell ⟨S, 0, none⟩ (.int .i64 0)).setCell ⟨S, 1, none⟩ (.slice none 0 0)).setCell ⟨S, 2, none⟩ (.slice none 0 0)).setCell ⟨S, 3, none⟩ (.slice none 0 0)).setCell ⟨S, 4, none⟩ (.slice none 0 0)).setCell ⟨S, 5, none⟩ (.slice none 0 0)).setCell ⟨S, 6, none⟩ (.slice none 0 0)).setCell ⟨S, 7, none⟩ (.slice none 0 0)).heap[j]? = w4.heap[j]? := fun j hj => by
        rw [Below.heap_setCell _ _ _ j hj, Below.heap_setCell _ _ _ j hj, Below.heap_setCell _ _ _ j hj, Below.heap_setCell _ _ _ j hj, Below.heap_setCell _ _ _ j hj, Below.heap_setCell _ _ _ j hj, Below.heap_setCell _ _ _ j hj, Below.heap_setCell _ _ _ j hj]
      have HN5 : Hid (NB w ((((((((w4.setCell ⟨S, 0, none⟩ (.int .i64 0)).setCell ⟨S, 1, none⟩ (.slice none 0 0)).setCell ⟨S, 2, none⟩ (.slice none 0 0)).setCell ⟨S, 3, none⟩ (.slice none 0 0)).setCell ⟨S, 4, none⟩ (.slice none 0 0)).setCell ⟨S, 5, none⟩ (.slice none 0 0)).setCell ⟨S, 6, none⟩ (.slice none 0 0)).setCell ⟨S, 7, none⟩ (.slice none 0 0)) S A #[.int .i64 0, .slice none 0 0, .slice none 0 0, .slice none 0 0, .slice none 0 0, .slice none 0 0, .slice none 0 0, .slice none 0 0]) := ⟨(set_any (set_any (set_any (set_any (set_any (set_any (set_any (set_any HN4.out.hS 0 _) 1 _) 2 _) 3 _) 4 _) 5 _) 6 _) 7 _).trans (congrArg (fun c => some (Obj.cells c 50 (0, 0))) (set8 _ _ _ _ _ _ _ _ _ _ _ _ _ _ _ _)), (hs5 A (fun e => by have h1 := HN4.out.hA; rw [e, HN4.out.hS] at h1; cases h1)).trans HN4.out.hA, HN4.out.sS, HN4.out.sA, ((((((((HN4.out.bel.setCell (p := ⟨S, 0, none⟩) HN4.out.sS _).setCell (p := ⟨S, 1, none⟩) HN4.out.sS _).setCell (p := ⟨S, 2, none⟩) HN4.out.sS _).setCell (p := ⟨S, 3, none⟩) HN4.out.sS _).setCell (p := ⟨S, 4, none⟩) HN4.out.sS _).setCell (p := ⟨S, 5, none⟩) HN4.out.sS _).setCell (p := ⟨S, 6, none⟩) HN4.out.sS _).setCell (p := ⟨S, 7, none⟩) HN4.out.sS _)⟩
      have HX5 : Hid (KeepX w4 ((((((((w4.setCell ⟨S, 0, none⟩ (.int .i64 0)).setCell ⟨S, 1, none⟩ (.slice none 0 0)).setCell ⟨S, 2, none⟩ (.slice none 0 0)).setCell ⟨S, 3, none⟩ (.slice none 0 0)).setCell ⟨S, 4, none⟩ (.slice none 0 0)).setCell ⟨S, 5, none⟩ (.slice none 0 0)).setCell ⟨S, 6, none⟩ (.slice none 0 0)).setCell ⟨S, 7, none⟩ (.slice none 0 0))) := fun j cur e1 fz hj he => hs5 j (fun e => by subst e; rw [HN4.out.hS] at hj; cases hj; simp at he)
      obtain ⟨w5, hw5⟩ : ∃ x, x = ((((((((w4.setCell ⟨S, 0, none⟩ (.int .i64 0)).setCell ⟨S, 1, none⟩ (.slice none 0 0)).setCell ⟨S, 2, none⟩ (.slice none 0 0)).setCell ⟨S, 3, none⟩ (.slice none 0 0)).setCell ⟨S, 4, none⟩ (.slice none 0 0)).setCell ⟨S, 5, none⟩ (.slice none 0 0)).setCell ⟨S, 6, none⟩ (.slice none 0 0)).setCell ⟨S, 7, none⟩ (.slice none 0 0)) := ⟨_, rfl⟩
      rw [← hw5] at HN5 HX5 ⊢
      clear hw5 hs5 HN4 s0 g0 s1 g1 s2 g2 s3 g3 s4 g4 s5 g5 s6 g6 s7 g7
      have HC1 : Hid (∀ w', Below w5.heap.size w5 w' → Calls Try.prog 21 #[.slice none 0 0] w' fun e w'' => e = .returned (.slice none 0 0) ∧ w'' = w') := fun w' _ => CloneNil_any w'
      have HC2 := HC1
      have d0 : w5.cell? ⟨S, 1, none⟩ = some (.slice none 0 0) := (cells_at HN5.out.hS 1).trans rfl
      have d1 : w5.cell? ⟨S, 2, none⟩ = some (.slice none 0 0) := (cells_at HN5.out.hS 2).trans rfl
      go_wp2_with fail
      refine wp_region_V (fun W => W.cell? ⟨S, 1, none⟩ = some (.slice none 0 0) ∧ W.cell? ⟨S, 2, none⟩ = some (.slice none 0 0)) 10 (by kernel_rfl) ?_
      refine wpAnyV_takeAt 0 (some 35) (v := ?_) rfl (by kernel_rfl) (by kernel_rfl) (by kernel_rfl) (by kernel_rfl) (by kernel_rfl) (fun _ _ _ h => h) (by exact ⟨d0, d1⟩) (fun o hop => ?_) ?_
      rotate_left
      · injection hop with hop
        subst hop
        refine ⟨rfl, fun W hW => ?_⟩
        obtain ⟨s0, s1⟩ := hW
        go_simp
        first
        | rfl
        | rw [if_neg (by omega)]
      try simp only [Act.put, List.setIfInBounds_toArray, List.set_cons_zero, List.set_cons_succ]
      refine wpAnyV_takeAt 1 (some 36) (v := ?_) rfl (by kernel_rfl) (by kernel_rfl) (by kernel_rfl) (by kernel_rfl) (by kernel_rfl) (fun _ _ _ h => h) (by exact ⟨d0, d1⟩) (fun o hop => ?_) ?_
      rotate_left
      · injection hop with hop
        subst hop
        refine ⟨rfl, fun W hW => ?_⟩
        obtain ⟨s0, s1⟩ := hW
        go_simp
        first
        | rfl
        | rw [if_neg (by omega)]
      try simp only [Act.put, List.setIfInBounds_toArray, List.set_cons_zero, List.set_cons_succ]
      refine wpAnyV_takeAt 2 (some 37) (v := ?_) rfl (by kernel_rfl) (by kernel_rfl) (by kernel_rfl) (by kernel_rfl) (by kernel_rfl) (fun _ _ _ h => h) (by exact ⟨d0, d1⟩) (fun o hop => ?_) ?_
      rotate_left
      · injection hop with hop
        subst hop
        refine ⟨rfl, fun W hW => ?_⟩
        obtain ⟨s0, s1⟩ := hW
        go_simp
        first
        | rfl
        | rw [if_neg (by omega)]
      try simp only [Act.put, List.setIfInBounds_toArray, List.set_cons_zero, List.set_cons_succ]
      refine wpAnyV_takeAt 4 (some 39) (v := ?_) rfl (by kernel_rfl) (by kernel_rfl) (by kernel_rfl) (by kernel_rfl) (by kernel_rfl) (fun _ _ _ h => h) (by exact ⟨d0, d1⟩) (fun o hop => ?_) ?_
      rotate_left
      · injection hop with hop
        subst hop
        refine ⟨rfl, fun W hW => ?_⟩
        obtain ⟨s0, s1⟩ := hW
        go_simp
        first
        | rfl
        | rw [if_neg (by omega)]
      try simp only [Act.put, List.setIfInBounds_toArray, List.set_cons_zero, List.set_cons_succ]
      refine wpAnyV_takeAt 5 (some 40) (v := ?_) rfl (by kernel_rfl) (by kernel_rfl) (by kernel_rfl) (by kernel_rfl) (by kernel_rfl) (fun _ _ _ h => h) (by exact ⟨d0, d1⟩) (fun o hop => ?_) ?_
      rotate_left
      · injection hop with hop
        subst hop
        refine ⟨rfl, fun W hW => ?_⟩
        obtain ⟨s0, s1⟩ := hW
        go_simp
        first
        | rfl
        | rw [if_neg (by omega)]
      try simp only [Act.put, List.setIfInBounds_toArray, List.set_cons_zero, List.set_cons_succ]
      refine wpAnyV_takeAt 6 (some 41) (v := ?_) rfl (by kernel_rfl) (by kernel_rfl) (by kernel_rfl) (by kernel_rfl) (by kernel_rfl) (fun _ _ _ h => h) (by exact ⟨d0, d1⟩) (fun o hop => ?_) ?_
      rotate_left
      · injection hop with hop
        subst hop
        refine ⟨rfl, fun W hW => ?_⟩
        obtain ⟨s0, s1⟩ := hW
        go_simp
        first
        | rfl
        | rw [if_neg (by omega)]
      try simp only [Act.put, List.setIfInBounds_toArray, List.set_cons_zero, List.set_cons_succ]
      refine wpAnyV_one (i := 3) (by kernel_rfl) rfl rfl (fun K' hK => ?_)
      go_simp
      go_at_call 21
      refine (HC1.out w5.drew ((Below.refl w5.heap.size w5).drew)).mono ?_
      rintro e w6 ⟨rfl, hw6⟩
      have HB6 : Hid (Below w5.heap.size w5 w6) := by rw [hw6]; exact (Below.refl w5.heap.size w5).drew
      clear hw6
      have HN6 := hide' (HN5.out.more HB6.out)
      have e0 : w6.cell? ⟨S, 1, none⟩ = some (.slice none 0 0) := (cells_at HN6.out.hS 1).trans rfl
      have e1 : w6.cell? ⟨S, 2, none⟩ = some (.slice none 0 0) := (cells_at HN6.out.hS 2).trans rfl
      refine hK.out _ _ (fun _ => by exact ⟨e0, e1⟩) ?_
      clear hK K' d0 d1
      refine wpAnyV_takeAt 8 (some 43) (v := ?_) rfl (by kernel_rfl) (by kernel_rfl) (by kernel_rfl) (by kernel_rfl) (by kernel_rfl) (fun _ _ _ h => h) (by exact ⟨e0, e1⟩) (fun o hop => ?_) ?_
      rotate_left
      · injection hop with hop
        subst hop
        refine ⟨rfl, fun W hW => ?_⟩
        obtain ⟨s0, s1⟩ := hW
        go_simp
        first
        | rfl
        | rw [if_neg (by omega)]
      try simp only [Act.put, List.setIfInBounds_toArray, List.set_cons_zero, List.set_cons_succ]
      refine wpAnyV_takeAt 9 (some 44) (v := ?_) rfl (by kernel_rfl) (by kernel_rfl) (by kernel_rfl) (by kernel_rfl) (by kernel_rfl) (fun _ _ _ h => h) (by exact ⟨e0, e1⟩) (fun o hop => ?_) ?_
      rotate_left
      · injection hop with hop
        subst hop
        refine ⟨rfl, fun W hW => ?_⟩
        obtain ⟨s0, s1⟩ := hW
        go_simp
        first
        | rfl
        | rw [if_neg (by omega)]
      try simp only [Act.put, List.setIfInBounds_toArray, List.set_cons_zero, List.set_cons_succ]
      refine wpAnyV_one (i := 7) (by kernel_rfl) rfl rfl (fun K' hK => ?_)
      go_simp
      go_at_call 21
      refine (HC2.out w6 HB6.out).mono ?_
      rintro e w7 ⟨rfl, hw7⟩
      have HB7 : Hid (Below w6.heap.size w6 w7) := by rw [hw7]; exact Below.refl _ _
      clear hw7
      have HN7 := hide' (HN6.out.more HB7.out)
      have h0 : w7.cell? ⟨S, 1, none⟩ = some (.slice none 0 0) := (cells_at HN7.out.hS 1).trans rfl
      have h1 : w7.cell? ⟨S, 2, none⟩ = some (.slice none 0 0) := (cells_at HN7.out.hS 2).trans rfl
      have i0 : w7.frozen? ⟨S, 1, none⟩ = false := frozen_no HN7.out.hS _
      have i1 : w7.frozen? ⟨S, 2, none⟩ = false := frozen_no HN7.out.hS _
      refine hK.out _ _ (fun _ => by exact ⟨h0, h1⟩) ?_
      clear hK K' e0 e1
      refine wpAnyV_one (i := 10) (by kernel_rfl) rfl rfl (fun K' hK => ?_)
      go_simp
      refine hK.out _ _ (fun h => absurd h (by decide)) ?_
      clear hK K'
      refine wpAnyV_one (i := 11) (by kernel_rfl) rfl rfl (fun K' hK => ?_)
      go_simp
      refine hK.out _ _ (fun h => absurd h (by decide)) ?_
      clear hK K'
      refine wpAnyV_one (i := 12) (by kernel_rfl) rfl rfl (fun K' hK => ?_)
      go_simp
      refine hK.out _ _ (fun h => absurd h (by decide)) ?_
      clear hK K'
      refine wpAnyV_one (i := 13) (by kernel_rfl) rfl rfl (fun K' hK => ?_)
      go_simp
      refine hK.out _ _ (fun h => absurd h (by decide)) ?_
      clear hK K'
      refine wpAnyV_done (by kernel_rfl) ?_ _
      have HN8 : Hid (NB w ((w7.setCell ⟨S, 1, none⟩ (.slice none 0 0)).setCell ⟨S, 2, none⟩ (.slice none 0 0)) S A #[.int .i64 0, .slice none 0 0, .slice none 0 0, .slice none 0 0, .slice none 0 0, .slice none 0 0, .slice none 0 0, .slice none 0 0]) := (HN7.out.set (j := 1) (x := .slice none 0 0)).set (j := 2) (x := .slice none 0 0)
      have HX8 : Hid (KeepX w7 ((w7.setCell ⟨S, 1, none⟩ (.slice none 0 0)).setCell ⟨S, 2, none⟩ (.slice none 0 0))) := HN7.out.keepX.trans (HN7.out.set (j := 1) (x := .slice none 0 0)).keepX
      obtain ⟨w8, hw8⟩ : ∃ x, x = ((w7.setCell ⟨S, 1, none⟩ (.slice none 0 0)).setCell ⟨S, 2, none⟩ (.slice none 0 0)) := ⟨_, rfl⟩
      rw [← hw8] at HN8 HX8 ⊢
      clear hw8 h0 h1 i0 i1 HN7 HN6 HN5
      have s0 : w8.cell? ⟨S, 0, none⟩ = some (.int .i64 0) := (cells_at HN8.out.hS 0).trans rfl
      have s1 : w8.cell? ⟨S, 1, none⟩ = some (.slice none 0 0) := (cells_at HN8.out.hS 1).trans rfl
      have s2 : w8.cell? ⟨S, 2, none⟩ = some (.slice none 0 0) := (cells_at HN8.out.hS 2).trans rfl
      have s3 : w8.cell? ⟨S, 3, none⟩ = some (.slice none 0 0) := (cells_at HN8.out.hS 3).trans rfl
      have a0 : w8.cell? ⟨A, 0, none⟩ = some (.int .i64 0) := (cells_at HN8.out.hA 0).trans rfl
      have f0 : w8.frozen? ⟨A, 0, none⟩ = false := frozen_no HN8.out.hA _
      have a1 : w8.cell? ⟨A, 1, none⟩ = some (.slice none 0 0) := (cells_at HN8.out.hA 1).trans rfl
      have f1 : w8.frozen? ⟨A, 1, none⟩ = false := frozen_no HN8.out.hA _
      have a2 : w8.cell? ⟨A, 2, none⟩ = some (.slice none 0 0) := (cells_at HN8.out.hA 2).trans rfl
      have f2 : w8.frozen? ⟨A, 2, none⟩ = false := frozen_no HN8.out.hA _
      have a3 : w8.cell? ⟨A, 3, none⟩ = some (.slice none 0 0) := (cells_at HN8.out.hA 3).trans rfl
      have f3 : w8.frozen? ⟨A, 3, none⟩ = false := frozen_no HN8.out.hA _
      have hs9 : ∀ j, j ≠ A → ((((w8.setCell ⟨A, 0, none⟩ (.int .i64 0)).setCell ⟨A, 1, none⟩ (.slice none 0 0)).setCell ⟨A, 2, none⟩ (.slice none 0 0)).setCell ⟨A, 3, none⟩ (.slice none 0 0)).heap[j]? = w8.heap[j]? := fun j hj => by
        rw [Below.heap_setCell _ _ _ j hj, Below.heap_setCell _ _ _ j hj, Below.heap_setCell _ _ _ j hj, Below.heap_setCell _ _ _ j hj]
      have HAA : Hid (((((w8.setCell ⟨A, 0, none⟩ (.int .i64 0)).setCell ⟨A, 1, none⟩ (.slice none 0 0)).setCell ⟨A, 2, none⟩ (.slice none 0 0)).setCell ⟨A, 3, none⟩ (.slice none 0 0)).heap[A]? = some (.cells #[.int .i64 0, .slice none 0 0, .slice none 0 0, .slice none 0 0] 25 (0, 0))) := (set_any (set_any (set_any (set_any HN8.out.hA 0 _) 1 _) 2 _) 3 _).trans (congrArg (fun c => some (Obj.cells c 25 (0, 0))) (set4 _ _ _ _ _ _ _ _))
      have HBF : Hid (Below w.heap.size w ((((w8.setCell ⟨A, 0, none⟩ (.int .i64 0)).setCell ⟨A, 1, none⟩ (.slice none 0 0)).setCell ⟨A, 2, none⟩ (.slice none 0 0)).setCell ⟨A, 3, none⟩ (.slice none 0 0))) := ((((HN8.out.bel.setCell (p := ⟨A, 0, none⟩) HN8.out.sA _).setCell (p := ⟨A, 1, none⟩) HN8.out.sA _).setCell (p := ⟨A, 2, none⟩) HN8.out.sA _).setCell (p := ⟨A, 3, none⟩) HN8.out.sA _)
      have HX9 : Hid (KeepX w8 ((((w8.setCell ⟨A, 0, none⟩ (.int .i64 0)).setCell ⟨A, 1, none⟩ (.slice none 0 0)).setCell ⟨A, 2, none⟩ (.slice none 0 0)).setCell ⟨A, 3, none⟩ (.slice none 0 0))) := fun j cur e1 fz hj he => hs9 j (fun e => by subst e; rw [HN8.out.hA] at hj; cases hj; simp at he)
      clear hs9 HN8
      go_wp2
      refine bodyPost_ret (results_cell_row1 rfl _ _ A 25 _ (0, 0) _ rfl HAA.out Try.underlying25 rfl (by kernel_rfl)) rfl ?_
      exact HWO.out _ _ ⟨.inr (.inr ⟨HYES.out, j, rfl, hjl, .inl ⟨HNE.out, rfl⟩⟩), HBF.out⟩
    · have HOKE := hide' h0e
      have HWK4 := hide' hwq
      obtain ⟨qaf, qad, qas, qcf, qcd, qcs, qG, qcg, qL, qE, qD⟩ := q
      rw [HWQ.out]
      dsimp only
      clear h0e hwq
      have s0 : w4.cell? ⟨S, 0, none⟩ = some (.int .i64 pt) := (cells_at HN4.out.hS 0).trans rfl
      have g0 : w4.frozen? ⟨S, 0, none⟩ = false := frozen_no HN4.out.hS _
      have s1 : w4.cell? ⟨S, 1, none⟩ = some (.slice af lf cf) := (cells_at HN4.out.hS 1).trans rfl
      have g1 : w4.frozen? ⟨S, 1, none⟩ = false := frozen_no HN4.out.hS _
      have s2 : w4.cell? ⟨S, 2, none⟩ = some (.slice ad ld cd) := (cells_at HN4.out.hS 2).trans rfl
      have g2 : w4.frozen? ⟨S, 2, none⟩ = false := frozen_no HN4.out.hS _
      have s3 : w4.cell? ⟨S, 3, none⟩ = some (.slice as' ls cs) := (cells_at HN4.out.hS 3).trans rfl
      have g3 : w4.frozen? ⟨S, 3, none⟩ = false := frozen_no HN4.out.hS _
      have s4 : w4.cell? ⟨S, 4, none⟩ = some (.slice (some ⟨G, 0, none⟩) nn cg) := (cells_at HN4.out.hS 4).trans rfl
      have g4 : w4.frozen? ⟨S, 4, none⟩ = false := frozen_no HN4.out.hS _
      have s5 : w4.cell? ⟨S, 5, none⟩ = some (.slice (some ⟨L, 0, none⟩) nn nn) := (cells_at HN4.out.hS 5).trans rfl
      have g5 : w4.frozen? ⟨S, 5, none⟩ = false := frozen_no HN4.out.hS _
      have s6 : w4.cell? ⟨S, 6, none⟩ = some (.slice (some ⟨E, 0, none⟩) nn nn) := (cells_at HN4.out.hS 6).trans rfl
      have g6 : w4.frozen? ⟨S, 6, none⟩ = false := frozen_no HN4.out.hS _
      have s7 : w4.cell? ⟨S, 7, none⟩ = some (.slice (some ⟨D, 0, none⟩) nn nn) := (cells_at HN4.out.hS 7).trans rfl
      have g7 : w4.frozen? ⟨S, 7, none⟩ = false := frozen_no HN4.out.hS _
      go_upto_region 7 with fail
      have hs5 : ∀ j, j ≠ S → ((((((((w4.setCell ⟨S, 0, none⟩ (.int .i64 pt)).setCell ⟨S, 1, none⟩ (.slice qaf lf qcf)).setCell ⟨S, 2, none⟩ (.slice qad ld qcd)).setCell ⟨S, 3, none⟩ (.slice qas ls qcs)).setCell ⟨S, 4, none⟩ (.slice (some ⟨qG, 0, none⟩) nn qcg)).setCell ⟨S, 5, none⟩ (.slice (some ⟨qL, 0, none⟩) nn nn)).setCell ⟨S, 6, none⟩ (.slice (some ⟨qE, 0, none⟩) nn nn)).setCell ⟨S, 7, none⟩ (.slice (some ⟨qD, 0, none⟩) nn nn)).heap[j]? = w4.heap[j]? := fun j hj => by
        rw [Below.heap_setCell _ _ _ j hj, Below.heap_setCell _ _ _ j hj, Below.heap_setCell _ _ _ j hj, Below.heap_setCell _ _ _ j hj, Below.heap_setCell _ _ _ j hj, Below.heap_setCell _ _ _ j hj, Below.heap_setCell _ _ _ j hj, Below.heap_setCell _ _ _ j hj]
      have HN5 : Hid (NB w ((((((((w4.setCell ⟨S, 0, none⟩ (.int .i64 pt)).setCell ⟨S, 1, none⟩ (.slice qaf lf qcf)).setCell ⟨S, 2, none⟩ (.slice qad ld qcd)).setCell ⟨S, 3, none⟩ (.slice qas ls qcs)).setCell ⟨S, 4, none⟩ (.slice (some ⟨qG, 0, none⟩) nn qcg)).setCell ⟨S, 5, none⟩ (.slice (some ⟨qL, 0, none⟩) nn nn)).setCell ⟨S, 6, none⟩ (.slice (some ⟨qE, 0, none⟩) nn nn)).setCell ⟨S, 7, none⟩ (.slice (some ⟨qD, 0, none⟩) nn nn)) S A #[.int .i64 pt, .slice qaf lf qcf, .slice qad ld qcd, .slice qas ls qcs, .slice (some ⟨qG, 0, none⟩) nn qcg, .slice (some ⟨qL, 0, none⟩) nn nn, .slice (some ⟨qE, 0, none⟩) nn nn, .slice (some ⟨qD, 0, none⟩) nn nn]) := ⟨(set_any (set_any (set_any (set_any (set_any (set_any (set_any (set_any HN4.out.hS 0 _) 1 _) 2 _) 3 _) 4 _) 5 _) 6 _) 7 _).trans (congrArg (fun c => some (Obj.cells c 50 (0, 0))) (set8 _ _ _ _ _ _ _ _ _ _ _ _ _ _ _ _)), (hs5 A (fun e => by have h1 := HN4.out.hA; rw [e, HN4.out.hS] at h1; cases h1)).trans HN4.out.hA, HN4.out.sS, HN4.out.sA, ((((((((HN4.out.bel.setCell (p := ⟨S, 0, none⟩) HN4.out.sS _).setCell (p := ⟨S, 1, none⟩) HN4.out.sS _).setCell (p := ⟨S, 2, none⟩) HN4.out.sS _).setCell (p := ⟨S, 3, none⟩) HN4.out.sS _).setCell (p := ⟨S, 4, none⟩) HN4.out.sS _).setCell (p := ⟨S, 5, none⟩) HN4.out.sS _).setCell (p := ⟨S, 6, none⟩) HN4.out.sS _).setCell (p := ⟨S, 7, none⟩) HN4.out.sS _)⟩
      have HX5 : Hid (KeepX w4 ((((((((w4.setCell ⟨S, 0, none⟩ (.int .i64 pt)).setCell ⟨S, 1, none⟩ (.slice qaf lf qcf)).setCell ⟨S, 2, none⟩ (.slice qad ld qcd)).setCell ⟨S, 3, none⟩ (.slice qas ls qcs)).setCell ⟨S, 4, none⟩ (.slice (some ⟨qG, 0, none⟩) nn qcg)).setCell ⟨S, 5, none⟩ (.slice (some ⟨qL, 0, none⟩) nn nn)).setCell ⟨S, 6, none⟩ (.slice (some ⟨qE, 0, none⟩) nn nn)).setCell ⟨S, 7, none⟩ (.slice (some ⟨qD, 0, none⟩) nn nn))) := fun j cur e1 fz hj he => hs5 j (fun e => by subst e; rw [HN4.out.hS] at hj; cases hj; simp at he)
      obtain ⟨w5, hw5⟩ : ∃ x, x = ((((((((w4.setCell ⟨S, 0, none⟩ (.int .i64 pt)).setCell ⟨S, 1, none⟩ (.slice qaf lf qcf)).setCell ⟨S, 2, none⟩ (.slice qad ld qcd)).setCell ⟨S, 3, none⟩ (.slice qas ls qcs)).setCell ⟨S, 4, none⟩ (.slice (some ⟨qG, 0, none⟩) nn qcg)).setCell ⟨S, 5, none⟩ (.slice (some ⟨qL, 0, none⟩) nn nn)).setCell ⟨S, 6, none⟩ (.slice (some ⟨qE, 0, none⟩) nn nn)).setCell ⟨S, 7, none⟩ (.slice (some ⟨qD, 0, none⟩) nn nn)) := ⟨_, rfl⟩
      rw [← hw5] at HN5 HX5 ⊢
      clear hw5 hs5 HN4 s0 g0 s1 g1 s2 g2 s3 g3 s4 g4 s5 g5 s6 g6 s7 g7
      have HWK5 : Hid (∀ w', KeepX w5 w' → Below w.heap.size w w' → WorkAt w' (y.turn j) ⟨qaf, qad, qas, qcf, qcd, qcs, qG, qcg, qL, qE, qD⟩) := fun w' hx hb => HWK4.out w' (HX5.out.trans hx) (HYA.out w' hb).f (HYA.out w' hb).d
      have HC1 : Hid (∀ w', Below w5.heap.size w5 w' → Calls Try.prog 21 #[.slice qaf lf qcf] w' fun e w'' => ∃ a c, e = .returned (.slice a lf c) ∧ w''.ownsRow w'.heap.size 3 1 (.slice a lf c) lf (ints y.fed) ∧ Below w'.heap.size w' w'') := fun w' hb => by
        have h9 := (HWK5.out w' (KeepX.below hb (Nat.le_refl _)) (HN5.out.bel.trans (hb.mono HN5.out.bel.size))).yard.f
        rw [HLF.out]
        exact CloneInt_any y.fed _ _ w' h9 (by rw [← HLF.out]; exact (HLEN.out 0 HMAY.out).1)
      have HC2 : Hid (∀ w', Below w5.heap.size w5 w' → Calls Try.prog 21 #[.slice qad ld qcd] w' fun e w'' => ∃ a c, e = .returned (.slice a ld c) ∧ w''.ownsRow w'.heap.size 3 1 (.slice a ld c) ld (ints y.drawn) ∧ Below w'.heap.size w' w'') := fun w' hb => by
        have h9 := (HWK5.out w' (KeepX.below hb (Nat.le_refl _)) (HN5.out.bel.trans (hb.mono HN5.out.bel.size))).yard.d
        rw [HLD.out]
        exact CloneInt_any y.drawn _ _ w' h9 (by rw [← HLD.out]; exact (HLEN.out 0 HMAY.out).2)
      have d0 : w5.cell? ⟨S, 1, none⟩ = some (.slice qaf lf qcf) := (cells_at HN5.out.hS 1).trans rfl
      have d1 : w5.cell? ⟨S, 2, none⟩ = some (.slice qad ld qcd) := (cells_at HN5.out.hS 2).trans rfl
      go_wp2_with fail
      refine wp_region_V (fun W => W.cell? ⟨S, 1, none⟩ = some (.slice qaf lf qcf) ∧ W.cell? ⟨S, 2, none⟩ = some (.slice qad ld qcd)) 10 (by kernel_rfl) ?_
      refine wpAnyV_takeAt 0 (some 35) (v := ?_) rfl (by kernel_rfl) (by kernel_rfl) (by kernel_rfl) (by kernel_rfl) (by kernel_rfl) (fun _ _ _ h => h) (by exact ⟨d0, d1⟩) (fun o hop => ?_) ?_
      rotate_left
      · injection hop with hop
        subst hop
        refine ⟨rfl, fun W hW => ?_⟩
        obtain ⟨s0, s1⟩ := hW
        go_simp
        first
        | rfl
        | rw [if_neg (by omega)]
      try simp only [Act.put, List.setIfInBounds_toArray, List.set_cons_zero, List.set_cons_succ]
      refine wpAnyV_takeAt 1 (some 36) (v := ?_) rfl (by kernel_rfl) (by kernel_rfl) (by kernel_rfl) (by kernel_rfl) (by kernel_rfl) (fun _ _ _ h => h) (by exact ⟨d0, d1⟩) (fun o hop => ?_) ?_
      rotate_left
      · injection hop with hop
        subst hop
        refine ⟨rfl, fun W hW => ?_⟩
        obtain ⟨s0, s1⟩ := hW
        go_simp
        first
        | rfl
        | rw [if_neg (by omega)]
      try simp only [Act.put, List.setIfInBounds_toArray, List.set_cons_zero, List.set_cons_succ]
      refine wpAnyV_takeAt 2 (some 37) (v := ?_) rfl (by kernel_rfl) (by kernel_rfl) (by kernel_rfl) (by kernel_rfl) (by kernel_rfl) (fun _ _ _ h => h) (by exact ⟨d0, d1⟩) (fun o hop => ?_) ?_
      rotate_left
      · injection hop with hop
        subst hop
        refine ⟨rfl, fun W hW => ?_⟩
        obtain ⟨s0, s1⟩ := hW
        go_simp
        first
        | rfl
        | rw [if_neg (by omega)]
      try simp only [Act.put, List.setIfInBounds_toArray, List.set_cons_zero, List.set_cons_succ]
      refine wpAnyV_takeAt 4 (some 39) (v := ?_) rfl (by kernel_rfl) (by kernel_rfl) (by kernel_rfl) (by kernel_rfl) (by kernel_rfl) (fun _ _ _ h => h) (by exact ⟨d0, d1⟩) (fun o hop => ?_) ?_
      rotate_left
      · injection hop with hop
        subst hop
        refine ⟨rfl, fun W hW => ?_⟩
        obtain ⟨s0, s1⟩ := hW
        go_simp
        first
        | rfl
        | rw [if_neg (by omega)]
      try simp only [Act.put, List.setIfInBounds_toArray, List.set_cons_zero, List.set_cons_succ]
      refine wpAnyV_takeAt 5 (some 40) (v := ?_) rfl (by kernel_rfl) (by kernel_rfl) (by kernel_rfl) (by kernel_rfl) (by kernel_rfl) (fun _ _ _ h => h) (by exact ⟨d0, d1⟩) (fun o hop => ?_) ?_
      rotate_left
      · injection hop with hop
        subst hop
        refine ⟨rfl, fun W hW => ?_⟩
        obtain ⟨s0, s1⟩ := hW
        go_simp
        first
        | rfl
        | rw [if_neg (by omega)]
      try simp only [Act.put, List.setIfInBounds_toArray, List.set_cons_zero, List.set_cons_succ]
      refine wpAnyV_takeAt 6 (some 41) (v := ?_) rfl (by kernel_rfl) (by kernel_rfl) (by kernel_rfl) (by kernel_rfl) (by kernel_rfl) (fun _ _ _ h => h) (by exact ⟨d0, d1⟩) (fun o hop => ?_) ?_
      rotate_left
      · injection hop with hop
        subst hop
        refine ⟨rfl, fun W hW => ?_⟩
        obtain ⟨s0, s1⟩ := hW
        go_simp
        first
        | rfl
        | rw [if_neg (by omega)]
      try simp only [Act.put, List.setIfInBounds_toArray, List.set_cons_zero, List.set_cons_succ]
      refine wpAnyV_one (i := 3) (by kernel_rfl) rfl rfl (fun K' hK => ?_)
      go_simp
      go_at_call 21
      refine (HC1.out w5.drew ((Below.refl w5.heap.size w5).drew)).mono ?_
      rintro e w6 ⟨ra1, rc1, rfl, ho6, hb6⟩
      have HB6 : Hid (Below w5.heap.size w5 w6) := (Below.refl w5.heap.size w5).drew.trans hb6
      have HO6 := hide' ho6
      clear ho6 hb6
      have HN6 := hide' (HN5.out.more HB6.out)
      have e0 : w6.cell? ⟨S, 1, none⟩ = some (.slice qaf lf qcf) := (cells_at HN6.out.hS 1).trans rfl
      have e1 : w6.cell? ⟨S, 2, none⟩ = some (.slice qad ld qcd) := (cells_at HN6.out.hS 2).trans rfl
      refine hK.out _ _ (fun _ => by exact ⟨e0, e1⟩) ?_
      clear hK K' d0 d1
      refine wpAnyV_takeAt 8 (some 43) (v := ?_) rfl (by kernel_rfl) (by kernel_rfl) (by kernel_rfl) (by kernel_rfl) (by kernel_rfl) (fun _ _ _ h => h) (by exact ⟨e0, e1⟩) (fun o hop => ?_) ?_
      rotate_left
      · injection hop with hop
        subst hop
        refine ⟨rfl, fun W hW => ?_⟩
        obtain ⟨s0, s1⟩ := hW
        go_simp
        first
        | rfl
        | rw [if_neg (by omega)]
      try simp only [Act.put, List.setIfInBounds_toArray, List.set_cons_zero, List.set_cons_succ]
      refine wpAnyV_takeAt 9 (some 44) (v := ?_) rfl (by kernel_rfl) (by kernel_rfl) (by kernel_rfl) (by kernel_rfl) (by kernel_rfl) (fun _ _ _ h => h) (by exact ⟨e0, e1⟩) (fun o hop => ?_) ?_
      rotate_left
      · injection hop with hop
        subst hop
        refine ⟨rfl, fun W hW => ?_⟩
        obtain ⟨s0, s1⟩ := hW
        go_simp
        first
        | rfl
        | rw [if_neg (by omega)]
      try simp only [Act.put, List.setIfInBounds_toArray, List.set_cons_zero, List.set_cons_succ]
      refine wpAnyV_one (i := 7) (by kernel_rfl) rfl rfl (fun K' hK => ?_)
      go_simp
      go_at_call 21
      refine (HC2.out w6 HB6.out).mono ?_
      rintro e w7 ⟨ra2, rc2, rfl, ho7, hb7⟩
      have HB7 : Hid (Below w6.heap.size w6 w7) := hb7
      have HO7 := hide' ho7
      clear ho7 hb7
      have HN7 := hide' (HN6.out.more HB7.out)
      have h0 : w7.cell? ⟨S, 1, none⟩ = some (.slice qaf lf qcf) := (cells_at HN7.out.hS 1).trans rfl
      have h1 : w7.cell? ⟨S, 2, none⟩ = some (.slice qad ld qcd) := (cells_at HN7.out.hS 2).trans rfl
      have i0 : w7.frozen? ⟨S, 1, none⟩ = false := frozen_no HN7.out.hS _
      have i1 : w7.frozen? ⟨S, 2, none⟩ = false := frozen_no HN7.out.hS _
      refine hK.out _ _ (fun _ => by exact ⟨h0, h1⟩) ?_
      clear hK K' e0 e1
      refine wpAnyV_one (i := 10) (by kernel_rfl) rfl rfl (fun K' hK => ?_)
      go_simp
      refine hK.out _ _ (fun h => absurd h (by decide)) ?_
      clear hK K'
      refine wpAnyV_one (i := 11) (by kernel_rfl) rfl rfl (fun K' hK => ?_)
      go_simp
      refine hK.out _ _ (fun h => absurd h (by decide)) ?_
      clear hK K'
      refine wpAnyV_one (i := 12) (by kernel_rfl) rfl rfl (fun K' hK => ?_)
      go_simp
      refine hK.out _ _ (fun h => absurd h (by decide)) ?_
      clear hK K'
      refine wpAnyV_one (i := 13) (by kernel_rfl) rfl rfl (fun K' hK => ?_)
      go_simp
      refine hK.out _ _ (fun h => absurd h (by decide)) ?_
      clear hK K'
      refine wpAnyV_done (by kernel_rfl) ?_ _
      have HN8 : Hid (NB w ((w7.setCell ⟨S, 1, none⟩ (.slice ra1 lf rc1)).setCell ⟨S, 2, none⟩ (.slice ra2 ld rc2)) S A #[.int .i64 pt, .slice ra1 lf rc1, .slice ra2 ld rc2, .slice qas ls qcs, .slice (some ⟨qG, 0, none⟩) nn qcg, .slice (some ⟨qL, 0, none⟩) nn nn, .slice (some ⟨qE, 0, none⟩) nn nn, .slice (some ⟨qD, 0, none⟩) nn nn]) := (HN7.out.set (j := 1) (x := .slice ra1 lf rc1)).set (j := 2) (x := .slice ra2 ld rc2)
      have HX8 : Hid (KeepX w7 ((w7.setCell ⟨S, 1, none⟩ (.slice ra1 lf rc1)).setCell ⟨S, 2, none⟩ (.slice ra2 ld rc2))) := HN7.out.keepX.trans (HN7.out.set (j := 1) (x := .slice ra1 lf rc1)).keepX
      obtain ⟨w8, hw8⟩ : ∃ x, x = ((w7.setCell ⟨S, 1, none⟩ (.slice ra1 lf rc1)).setCell ⟨S, 2, none⟩ (.slice ra2 ld rc2)) := ⟨_, rfl⟩
      rw [← hw8] at HN8 HX8 ⊢
      clear hw8 h0 h1 i0 i1 HN7 HN6 HN5
      have s0 : w8.cell? ⟨S, 0, none⟩ = some (.int .i64 pt) := (cells_at HN8.out.hS 0).trans rfl
      have s1 : w8.cell? ⟨S, 1, none⟩ = some (.slice ra1 lf rc1) := (cells_at HN8.out.hS 1).trans rfl
      have s2 : w8.cell? ⟨S, 2, none⟩ = some (.slice ra2 ld rc2) := (cells_at HN8.out.hS 2).trans rfl
      have s3 : w8.cell? ⟨S, 3, none⟩ = some (.slice qas ls qcs) := (cells_at HN8.out.hS 3).trans rfl
      have a0 : w8.cell? ⟨A, 0, none⟩ = some (.int .i64 0) := (cells_at HN8.out.hA 0).trans rfl
      have f0 : w8.frozen? ⟨A, 0, none⟩ = false := frozen_no HN8.out.hA _
      have a1 : w8.cell? ⟨A, 1, none⟩ = some (.slice none 0 0) := (cells_at HN8.out.hA 1).trans rfl
      have f1 : w8.frozen? ⟨A, 1, none⟩ = false := frozen_no HN8.out.hA _
      have a2 : w8.cell? ⟨A, 2, none⟩ = some (.slice none 0 0) := (cells_at HN8.out.hA 2).trans rfl
      have f2 : w8.frozen? ⟨A, 2, none⟩ = false := frozen_no HN8.out.hA _
      have a3 : w8.cell? ⟨A, 3, none⟩ = some (.slice none 0 0) := (cells_at HN8.out.hA 3).trans rfl
      have f3 : w8.frozen? ⟨A, 3, none⟩ = false := frozen_no HN8.out.hA _
      have hs9 : ∀ j, j ≠ A → ((((w8.setCell ⟨A, 0, none⟩ (.int .i64 pt)).setCell ⟨A, 1, none⟩ (.slice ra1 lf rc1)).setCell ⟨A, 2, none⟩ (.slice ra2 ld rc2)).setCell ⟨A, 3, none⟩ (.slice qas ls qcs)).heap[j]? = w8.heap[j]? := fun j hj => by
        rw [Below.heap_setCell _ _ _ j hj, Below.heap_setCell _ _ _ j hj, Below.heap_setCell _ _ _ j hj, Below.heap_setCell _ _ _ j hj]
      have HAA : Hid (((((w8.setCell ⟨A, 0, none⟩ (.int .i64 pt)).setCell ⟨A, 1, none⟩ (.slice ra1 lf rc1)).setCell ⟨A, 2, none⟩ (.slice ra2 ld rc2)).setCell ⟨A, 3, none⟩ (.slice qas ls qcs)).heap[A]? = some (.cells #[.int .i64 pt, .slice ra1 lf rc1, .slice ra2 ld rc2, .slice qas ls qcs] 25 (0, 0))) := (set_any (set_any (set_any (set_any HN8.out.hA 0 _) 1 _) 2 _) 3 _).trans (congrArg (fun c => some (Obj.cells c 25 (0, 0))) (set4 _ _ _ _ _ _ _ _))
      have HBF : Hid (Below w.heap.size w ((((w8.setCell ⟨A, 0, none⟩ (.int .i64 pt)).setCell ⟨A, 1, none⟩ (.slice ra1 lf rc1)).setCell ⟨A, 2, none⟩ (.slice ra2 ld rc2)).setCell ⟨A, 3, none⟩ (.slice qas ls qcs))) := ((((HN8.out.bel.setCell (p := ⟨A, 0, none⟩) HN8.out.sA _).setCell (p := ⟨A, 1, none⟩) HN8.out.sA _).setCell (p := ⟨A, 2, none⟩) HN8.out.sA _).setCell (p := ⟨A, 3, none⟩) HN8.out.sA _)
      have HX9 : Hid (KeepX w8 ((((w8.setCell ⟨A, 0, none⟩ (.int .i64 pt)).setCell ⟨A, 1, none⟩ (.slice ra1 lf rc1)).setCell ⟨A, 2, none⟩ (.slice ra2 ld rc2)).setCell ⟨A, 3, none⟩ (.slice qas ls qcs))) := fun j cur e1 fz hj he => hs9 j (fun e => by subst e; rw [HN8.out.hA] at hj; cases hj; simp at he)
      clear hs9 HN8
      go_wp2
      refine bodyPost_ret (results_cell_row1 rfl _ _ A 25 _ (0, 0) _ rfl HAA.out Try.underlying25 rfl (by kernel_rfl)) rfl ?_
      refine HWO.out _ _ ⟨.inr (.inr ⟨HYES.out, j, rfl, hjl, .inr ⟨HOKE.out, ra1, ra2, qas, rc1, rc2, qcs, rfl, ?_, ?_, ?_⟩⟩), HBF.out⟩
      · have h9 := own_keepX (own_keepX (own_below HO6.out HB7.out (Nat.le_refl _)) HX8.out (by simp)) HX9.out (by simp)
        show RowAt _ (.slice ra1 y.fed.length rc1) y.fed.length 1 (ints y.fed)
        rw [← HLF.out]
        exact rowAt_of_own h9
      · have h9 := own_keepX (own_keepX HO7.out HX8.out (by simp)) HX9.out (by simp)
        show RowAt _ (.slice ra2 y.drawn.length rc2) y.drawn.length 1 (ints y.drawn)
        rw [← HLD.out]
        exact rowAt_of_own h9
      · exact (HWK5.out _ ((((KeepX.below HB6.out (Nat.le_refl _)).trans (KeepX.below HB7.out (Nat.le_refl _))).trans HX8.out).trans HX9.out) HBF.out).yard.s
end Go.Proofs.Ytcnoipcpifackah
