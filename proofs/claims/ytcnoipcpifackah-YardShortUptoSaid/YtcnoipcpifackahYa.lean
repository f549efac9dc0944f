/- The yard in which a device is turned, in the program. -/
import Derived.Test.YtcnoipcpifackahY9
namespace Go.Proofs.Ytcnoipcpifackah
open Go.RowKit Go.Shelf

theorem Try.info45 : (Try.prog.info? 45).map (fun i => (i.zero, i.size, i.bytes)) = some (some (.agg #[.int .i64 0, .int .i64 0, .int .i64 0, .bool false]), 4, 32) := by kernel_rfl
theorem devs_one (ds : List DevM) : ∀ u ∈ ds.flatMap DevM.cells, u.oneCell' = true := by
  intro u hu
  obtain ⟨d, _, h⟩ := List.mem_flatMap.1 hu
  simp only [DevM.cells, List.mem_cons, List.not_mem_nil, or_false] at h
  rcases h with rfl | rfl | rfl | rfl <;> rfl
def DevM.turn (d : DevM) : DevM := { d with shut := !d.shut }
/-- A device is turned, whether it may be or not. -/
def YardM.turn (y : YardM) (k : Nat) : YardM := { y with devs := y.devs.modify k DevM.turn }
theorem cells_set : ∀ (ds : List DevM) (k : Nat) (b : Bool), (ds.flatMap DevM.cells).set (k * 4 + 3) (.bool b) = (ds.modify k fun d => { d with shut := b }).flatMap DevM.cells
  | [], _, _ => by simp
  | d :: ds, 0, b => by simp [DevM.cells, List.flatMap_cons]
  | d :: ds, k + 1, b => by
    have ih := cells_set ds k b
    rw [List.modify_succ_cons, List.flatMap_cons, List.flatMap_cons, ← ih]
    have e : (k + 1) * 4 + 3 = (k * 4 + 3) + 4 := by omega
    rw [e]
    simp [DevM.cells]
theorem turn_is {ds : List DevM} {k : Nat} {d : DevM} (h : ds[k]? = some d) : ds.modify k DevM.turn = ds.modify k fun x => { x with shut := !d.shut } := by
  obtain ⟨hk, rfl⟩ := List.getElem?_eq_some_iff.1 h
  refine List.ext_getElem (by simp) fun i h1 h2 => ?_
  rw [List.getElem_modify, List.getElem_modify]
  split
  · rename_i e; subst e; rfl
  · rfl
theorem turn_len (y : YardM) (k : Nat) : (y.turn k).devs.length = y.devs.length := by simp [YardM.turn]
theorem turn_n (y : YardM) (k : Nat) : (y.turn k).n = y.n := rfl
theorem MayY.turn {y : YardM} (h : MayY y) (k : Nat) : MayY (y.turn k) := by
  refine ⟨h.p, by rw [turn_len]; exact h.d, h.f, h.w, fun d hd => ?_⟩
  obtain ⟨i, hi, rfl⟩ := List.mem_iff_getElem.1 hd
  have hi' : i < y.devs.length := by simpa [YardM.turn] using hi
  have h1 := h.o _ (List.getElem_mem hi')
  simp only [YardM.turn, List.getElem_modify]
  split
  · exact h1
  · exact h1
set_option maxRecDepth 100000 in
set_option maxHeartbeats 1000000 in
theorem CloneDev_any (ds : List DevM) (n : Nat) (ad : Addr) (c : Nat) (w : World) (hx : RowAt w (.slice (some ad) n c) n 4 (ds.flatMap DevM.cells)) (hl : n ≤ 1000) (h0 : 0 < n) :
    Calls Try.prog 52 #[.slice (some ad) n c] w fun e w' => ∃ V c', e = .returned (.slice (some ⟨V, 0, none⟩) n c') ∧ w'.ownsRow w.heap.size 45 4 (.slice (some ⟨V, 0, none⟩) n c') n (ds.flatMap DevM.cells) ∧ Below w.heap.size w w' := by
  obtain ⟨i0, hi0, hzz0, hzz1, hzz2⟩ := info_parts Try.info45
  have HX := hide' hx
  clear hx
  have q22 : ∀ (w : World) (a : Option Addr) (n c n' c' : Nat), (binOp .eql 23 (.slice a n c) (.slice none n' c')).run Try.prog w = .ok (.bool a.isNone) w := fun w a n c n' c' => Lib.run_eql_slice_nil w _ _ a n c n' c' Try.underlying23
  have HA : Hid (∀ o, RowAt (w.alloc o) (.slice (some ad) n c) n 4 (ds.flatMap DevM.cells)) := fun o => HX.out.below (below_al w o) (Nat.le_refl _)
  go_enter Try.func52, Try.ntmps52
  go_wp2_with (at_builtin; refine wpList_append_any _ rfl _ _ 23 rfl w.heap.size 45 i0 _ 4 32 Try.underlying23 hi0 hzz0 hzz1 hzz2 rfl (by decide) _ _ _ rfl (World.ownsRow_made w #[] 0 (Nat.le_refl _) (Nat.zero_le _) (by simp)) _ _ _ rfl (HA.out _) (devs_one ds) (by unfold maxLen; omega) (by omega) (by simp) ?_; intro v' w1 hown hgrow; refine Still.go ?_)
  unfold Still
  have HOW := hide' hown
  have hg : (w.alloc (.cells #[] 45)).grownBy w1 (some w.heap.size) := hgrow
  have HB : Hid (Below w.heap.size w w1) := ((Below.refl _ w).alloc (Nat.le_refl _) _).grown hg (by simp) (fun k e => by cases e; exact Nat.le_refl _)
  clear hown hgrow hg
  go_wp2
  go_ret
  have h1 : w1.ownsRow w.heap.size 45 4 v' n (ds.flatMap DevM.cells) := by have := HOW.out; simpa using this
  rcases h1.2 with ⟨_, h2⟩ | ⟨V, c', _, rfl, _⟩
  · omega
  · exact ⟨V, c', rfl, h1, HB.out⟩
theorem own_dev_set {w : World} {B V n c : Nat} {ds : List DevM} (h : w.ownsRow B 45 4 (.slice (some ⟨V, 0, none⟩) n c) n (ds.flatMap DevM.cells)) (k : Nat) (b : Bool) (_hk : k < n) : (w.setCell ⟨V, k * 4 + 3, none⟩ (.bool b)).ownsRow B 45 4 (.slice (some ⟨V, 0, none⟩) n c) n ((ds.modify k fun d => { d with shut := b }).flatMap DevM.cells) := by
  rcases h.2 with ⟨h1, _⟩ | ⟨g, cap, cur, h1, h0, h2, h3, h3', h4, h5⟩
  · cases h1
  · cases h1
    refine ⟨by rw [← cells_set, List.length_set]; exact h.1, .inr ⟨V, c, _, rfl, h0, set_any h2 _ _, h3, h3', by simpa using h4, ?_⟩⟩
    rw [Array.toList_setIfInBounds, List.take_set, h5, cells_set]
theorem own_cell {w : World} {B V n c e sz : Nat} {xs : List Value} (h : w.ownsRow B e sz (.slice (some ⟨V, 0, none⟩) n c) n xs) {j : Nat} {u : Value} (hj : xs[j]? = some u) : w.cell? ⟨V, j, none⟩ = some u ∧ w.frozen? ⟨V, j, none⟩ = false := by
  rcases h.2 with ⟨h1, _⟩ | ⟨g, cap, cur, h1, _, h2, _, _, _, h5⟩
  · cases h1
  · cases h1
    refine ⟨?_, frozen_no h2 _⟩
    rw [cells_at h2]
    have hlt : j < n * sz := by rw [← h.1]; exact (List.getElem?_eq_some_iff.1 hj).1
    rw [← h5, List.getElem?_take_of_lt hlt] at hj
    simpa using hj
theorem dev_cell {ds : List DevM} {k j : Nat} {d : DevM} (h : ds[k]? = some d) (hj : j < 4) : (ds.flatMap DevM.cells)[k * 4 + j]? = d.cells[j]? := by
  obtain ⟨hk, rfl⟩ := List.getElem?_eq_some_iff.1 h
  exact flat_get DevM.cells 4 (fun _ => rfl) ds k j hk hj
/-- Rows of numbers, signs and devices are kept. -/
def KeepX (w w' : World) : Prop := ∀ (k : Nat) (cur : Array Value) (e1 : TypeId) (fz : Nat × Nat), w.heap[k]? = some (.cells cur e1 fz) → (e1 = 3 ∨ e1 = 4 ∨ e1 = 45) → w'.heap[k]? = w.heap[k]?
theorem KeepX.refl (w : World) : KeepX w w := fun _ _ _ _ _ _ => rfl
theorem KeepX.trans {a b c : World} (h : KeepX a b) (h' : KeepX b c) : KeepX a c := fun k cur e1 fz hk he => by
  have h1 := h k cur e1 fz hk he
  exact (h' k cur e1 fz (h1.trans hk) he).trans h1
theorem KeepE.toX {e : TypeId} {a b : World} (h : KeepE e a b) (h3 : (3 : Nat) ≠ e) (h4 : (4 : Nat) ≠ e) (h45 : (45 : Nat) ≠ e) : KeepX a b := fun k cur e1 fz hk he => h k cur e1 fz hk (by rcases he with rfl | rfl | rfl; exact h3; exact h4; exact h45)
theorem KeepX.below {B : Nat} {w w' : World} (h : Below B w w') (hb : w.heap.size ≤ B) : KeepX w w' := (KeepE.below (e := 50) h hb).toX (by decide) (by decide) (by decide)
theorem own_keepX {w w' : World} {B e1 sz n : Nat} {v : Value} {xs : List Value} (h : w.ownsRow B e1 sz v n xs) (hk : KeepX w w') (he : e1 = 3 ∨ e1 = 4 ∨ e1 = 45) : w'.ownsRow B e1 sz v n xs := by
  refine ⟨h.1, ?_⟩
  rcases h.2 with h2 | ⟨g, cap, cur', h3, h4, h5, h6⟩
  · exact .inl h2
  · exact .inr ⟨g, cap, cur', h3, h4, (hk g cur' e1 _ h5 he).trans h5, h6⟩
/-- What turned answers. -/
def TurnedO (y : YardM) (p : Places) (k : Nat) (w : World) (e : Ending) (w' : World) : Prop := ∃ q, e = .returned (workV (y.turn k) q) ∧ (∀ w2, KeepX w' w2 → RowAt w2 (.slice p.af y.fed.length p.cf) y.fed.length 1 (ints y.fed) → RowAt w2 (.slice p.ad y.drawn.length p.cd) y.drawn.length 1 (ints y.drawn) → WorkAt w2 (y.turn k) q) ∧ Below w.heap.size w w'
/-- The blocks of turned. -/
structure UB (w wr : World) (A Y : Nat) (yv : Array Value) : Prop where
  hA : wr.heap[A]? = some (.cells zero8 50 (0, 0))
  hY : wr.heap[Y]? = some (.cells yv 25 (0, 0))
  sA : w.heap.size ≤ A
  sY : w.heap.size ≤ Y
  bel : Below w.heap.size w wr
theorem UB.more {w wr wr' : World} {A Y : Nat} {yv : Array Value} (h : UB w wr A Y yv) (hb : Below wr.heap.size wr wr') : UB w wr' A Y yv :=
  ⟨(hb.block A (Array.getElem?_eq_some_iff.1 h.hA).1).trans h.hA, (hb.block Y (Array.getElem?_eq_some_iff.1 h.hY).1).trans h.hY, h.sA, h.sY, h.bel.trans (hb.mono h.bel.size)⟩
theorem UB.setY {w wr : World} {A Y j : Nat} {yv : Array Value} {x : Value} (h : UB w wr A Y yv) : UB w (wr.setCell ⟨Y, j, none⟩ x) A Y (yv.setIfInBounds j x) :=
  ⟨(keep_set h.hY j x A _ _ _ h.hA (by decide)).trans h.hA, set_any h.hY j x, h.sA, h.sY, h.bel.setCell (p := ⟨Y, j, none⟩) h.sY x⟩
theorem UB.keep {w wr wr' : World} {A Y e : Nat} {yv : Array Value} (h : UB w wr A Y yv) (hk : KeepE e wr wr') (h50 : (50 : Nat) ≠ e) (h25 : (25 : Nat) ≠ e) (hb : Below w.heap.size w wr') : UB w wr' A Y yv :=
  ⟨(hk A _ _ _ h.hA h50).trans h.hA, (hk Y _ _ _ h.hY h25).trans h.hY, h.sA, h.sY, hb⟩
theorem TurnedO.work {y : YardM} {p : Places} {k : Nat} {w : World} {e : Ending} {w' : World} (h : TurnedO y p k w e w') (hw : WorkAt w y p) : ∃ q, e = .returned (workV (y.turn k) q) ∧ WorkAt w' (y.turn k) q ∧ Below w.heap.size w w' := by
  obtain ⟨q, h1, h2, h3⟩ := h
  exact ⟨q, h1, h2 w' (KeepX.refl _) (hw.yard.f.below h3 (Nat.le_refl _)) (hw.yard.d.below h3 (Nat.le_refl _)), h3⟩
set_option maxRecDepth 100000 in
set_option maxHeartbeats 2000000 in
theorem turned_any (y : YardM) (hm : MayY y) (p : Places) (k : Nat) (w : World) (hw : WorkAt w y p) (hk : k < y.devs.length) : Calls Try.prog 32 #[workV y p, .int .i64 k] w (TurnedO y p k w) := by
  have HM := hide' hm
  have HW := hide' hw
  have HK := hide' hk
  have hd10 := hm.d
  obtain ⟨d, hd⟩ : ∃ d, d = y.devs[k] := ⟨_, rfl⟩
  have HD : Hid (y.devs[k]? = some d) := by show _ = _; rw [hd]; exact List.getElem?_eq_getElem hk
  obtain ⟨af, ad, as0, cf, cd, cs, G, cg, L, E, D⟩ := p
  obtain ⟨sa, rfl⟩ : ∃ sa, as0 = some sa := by
    obtain ⟨b, off, c, ex, _⟩ := row_elem (f := DevM.cells) (fun _ => rfl) hw.yard.s k hk (by decide)
    cases ex
    exact ⟨_, rfl⟩
  have HTO : Hid (∀ e w', (∃ q, e = .returned (workV (y.turn k) q) ∧ (∀ w2, KeepX w' w2 → RowAt w2 (.slice af y.fed.length cf) y.fed.length 1 (ints y.fed) → RowAt w2 (.slice ad y.drawn.length cd) y.drawn.length 1 (ints y.drawn) → WorkAt w2 (y.turn k) q) ∧ Below w.heap.size w w') → TurnedO y ⟨af, ad, some sa, cf, cd, cs, G, cg, L, E, D⟩ k w e w') := fun _ _ h => h
  obtain ⟨R, hR⟩ : ∃ R, R = TurnedO y ⟨af, ad, some sa, cf, cd, cs, G, cg, L, E, D⟩ k w := ⟨_, rfl⟩
  rw [← hR] at HTO ⊢
  unfold workV
  dsimp only
  obtain ⟨lf, hlf⟩ : ∃ l, l = y.fed.length := ⟨_, rfl⟩
  obtain ⟨ld, hld⟩ : ∃ l, l = y.drawn.length := ⟨_, rfl⟩
  obtain ⟨ls, hls⟩ : ∃ l, l = y.devs.length := ⟨_, rfl⟩
  obtain ⟨pt, hpt⟩ : ∃ p, p = y.points := ⟨_, rfl⟩
  obtain ⟨nn, hnn⟩ : ∃ p, p = y.n := ⟨_, rfl⟩
  have HLF := hide' hlf
  have HLD := hide' hld
  have HLS := hide' hls
  have HPT := hide' hpt
  have HNN := hide' hnn
  rw [← hlf, ← hld, ← hls, ← hpt, ← hnn]
  rw [← hls] at hk hd10
  clear hm hw hd hR hlf hld hls hpt hnn
  go_enter Try.func32, Try.ntmps32
  go_upto_region 2 with fail
  have HU0 : Hid (UB w (((w.alloc (.cells #[.int .i64 pt, .slice af lf cf, .slice ad ld cd, .slice (some sa) ls cs, .slice (some ⟨G, 0, none⟩) nn cg, .slice (some ⟨L, 0, none⟩) nn nn, .slice (some ⟨E, 0, none⟩) nn nn, .slice (some ⟨D, 0, none⟩) nn nn] 50)).alloc (.cells #[.int .i64 0, .slice none 0 0, .slice none 0 0, .slice none 0 0, .slice none 0 0, .slice none 0 0, .slice none 0 0, .slice none 0 0] 50)).alloc (.cells #[.int .i64 pt, .slice af lf cf, .slice ad ld cd, .slice (some sa) ls cs] 25)) (w.heap.size + 1) (w.heap.size + 1 + 1) #[.int .i64 pt, .slice af lf cf, .slice ad ld cd, .slice (some sa) ls cs]) := by
    have hA := alloc_new (w.alloc (.cells #[.int .i64 pt, .slice af lf cf, .slice ad ld cd, .slice (some sa) ls cs, .slice (some ⟨G, 0, none⟩) nn cg, .slice (some ⟨L, 0, none⟩) nn nn, .slice (some ⟨E, 0, none⟩) nn nn, .slice (some ⟨D, 0, none⟩) nn nn] 50)) (.cells #[.int .i64 0, .slice none 0 0, .slice none 0 0, .slice none 0 0, .slice none 0 0, .slice none 0 0, .slice none 0 0, .slice none 0 0] 50)
    have hS := alloc_new ((w.alloc (.cells #[.int .i64 pt, .slice af lf cf, .slice ad ld cd, .slice (some sa) ls cs, .slice (some ⟨G, 0, none⟩) nn cg, .slice (some ⟨L, 0, none⟩) nn nn, .slice (some ⟨E, 0, none⟩) nn nn, .slice (some ⟨D, 0, none⟩) nn nn] 50)).alloc (.cells #[.int .i64 0, .slice none 0 0, .slice none 0 0, .slice none 0 0, .slice none 0 0, .slice none 0 0, .slice none 0 0, .slice none 0 0] 50)) (.cells #[.int .i64 pt, .slice af lf cf, .slice ad ld cd, .slice (some sa) ls cs] 25)
    rw [World.size_alloc] at hA
    rw [World.size_alloc, World.size_alloc] at hS
    exact ⟨(alloc_old _ _ (by simp)).trans hA, hS, by omega, by omega, ((below_al w _).alloc (by simp) _).alloc (by simp; omega) _⟩
  obtain ⟨w1, hw1⟩ : ∃ x, x = ((w.alloc (.cells #[.int .i64 pt, .slice af lf cf, .slice ad ld cd, .slice (some sa) ls cs, .slice (some ⟨G, 0, none⟩) nn cg, .slice (some ⟨L, 0, none⟩) nn nn, .slice (some ⟨E, 0, none⟩) nn nn, .slice (some ⟨D, 0, none⟩) nn nn] 50)).alloc (.cells #[.int .i64 0, .slice none 0 0, .slice none 0 0, .slice none 0 0, .slice none 0 0, .slice none 0 0, .slice none 0 0, .slice none 0 0] 50)).alloc (.cells #[.int .i64 pt, .slice af lf cf, .slice ad ld cd, .slice (some sa) ls cs] 25) := ⟨_, rfl⟩
  rw [← hw1] at HU0 ⊢
  obtain ⟨Y, hY⟩ : ∃ S, S = w.heap.size + 1 + 1 := ⟨_, rfl⟩
  rw [← hY] at HU0 ⊢
  obtain ⟨A, hA⟩ : ∃ A, A = w.heap.size + 1 := ⟨_, rfl⟩
  rw [← hA] at HU0 ⊢
  clear hw1 hY hA
  have HCL : Hid (Calls Try.prog 52 #[.slice (some sa) ls cs] w1 fun e w' => ∃ V c', e = .returned (.slice (some ⟨V, 0, none⟩) ls c') ∧ w'.ownsRow w1.heap.size 45 4 (.slice (some ⟨V, 0, none⟩) ls c') ls (y.devs.flatMap DevM.cells) ∧ Below w1.heap.size w1 w') := by
    have h1 := HW.out.yard.s.below HU0.out.bel (Nat.le_refl _)
    dsimp only at h1
    rw [← HLS.out] at h1
    exact CloneDev_any y.devs ls sa cs w1 h1 (by omega) (by omega)
  have y3 : w1.cell? ⟨Y, 3, none⟩ = some (.slice (some sa) ls cs) := (cells_at HU0.out.hY 3).trans rfl
  go_wp2_with fail
  refine HCL.out.mono ?_
  rintro e w2 ⟨V, cv, rfl, hov, hb2⟩
  have HU2 := hide' (HU0.out.more hb2)
  have HOV := hide' (own_base hov HU0.out.bel.size)
  clear HCL y3 HU0 hov hb2
  have y3 : w2.cell? ⟨Y, 3, none⟩ = some (.slice (some sa) ls cs) := (cells_at HU2.out.hY 3).trans rfl
  have y3f : w2.frozen? ⟨Y, 3, none⟩ = false := frozen_no HU2.out.hY _
  go_upto_region 3 with fail
  have HU3 : Hid (UB w (w2.setCell ⟨Y, 3, none⟩ (.slice (some ⟨V, 0, none⟩) ls cv)) A Y #[.int .i64 pt, .slice af lf cf, .slice ad ld cd, .slice (some ⟨V, 0, none⟩) ls cv]) := HU2.out.setY (j := 3)
  have HOV3 : Hid ((w2.setCell ⟨Y, 3, none⟩ (.slice (some ⟨V, 0, none⟩) ls cv)).ownsRow w.heap.size 45 4 (.slice (some ⟨V, 0, none⟩) ls cv) ls (y.devs.flatMap DevM.cells)) := own_keep HOV.out (keep_set HU2.out.hY 3 _) (by decide)
  obtain ⟨w3, hw3⟩ : ∃ x, x = w2.setCell ⟨Y, 3, none⟩ (.slice (some ⟨V, 0, none⟩) ls cv) := ⟨_, rfl⟩
  rw [← hw3] at HU3 HOV3 ⊢
  clear hw3 y3 y3f HU2 HOV
  have c3 : w3.cell? ⟨Y, 3, none⟩ = some (.slice (some ⟨V, 0, none⟩) ls cv) := (cells_at HU3.out.hY 3).trans rfl
  obtain ⟨cd3, fd3⟩ := own_cell HOV3.out (j := k * 4 + 3) (u := .bool d.shut) ((dev_cell HD.out (by decide)).trans rfl)
  go_wp2_with fail
  refine wp_region_tail (fun W => W.cell? ⟨Y, 3, none⟩ = some (.slice (some ⟨V, 0, none⟩) ls cv) ∧ W.cell? ⟨V, k * 4 + 3, none⟩ = some (.bool d.shut)) 12 (by kernel_rfl) ?_
  refine wpAnyD_takeAt 0 (some 12) (v := ?_) rfl (by kernel_rfl) (by kernel_rfl) (by kernel_rfl) (by kernel_rfl) (by kernel_rfl) (fun _ _ _ h => h) (by exact ⟨c3, cd3⟩) (fun o hop => ?_) ?_
  rotate_left
  · injection hop with hop
    subst hop
    refine ⟨rfl, fun W hW => ?_⟩
    obtain ⟨s0, s1⟩ := hW
    go_simp
    first
    | rfl
    | rw [if_neg (by omega)]
  try simp only [Act.put, List.setIfInBounds_toArray, List.set_cons_zero, List.set_cons_succ]
  refine wpAnyD_takeAt 1 (some 13) (v := ?_) rfl (by kernel_rfl) (by kernel_rfl) (by kernel_rfl) (by kernel_rfl) (by kernel_rfl) (fun _ _ _ h => h) (by exact ⟨c3, cd3⟩) (fun o hop => ?_) ?_
  rotate_left
  · injection hop with hop
    subst hop
    refine ⟨rfl, fun W hW => ?_⟩
    obtain ⟨s0, s1⟩ := hW
    go_simp
    first
    | rfl
    | rw [if_neg (by omega)]
  try simp only [Act.put, List.setIfInBounds_toArray, List.set_cons_zero, List.set_cons_succ]
  refine wpAnyD_takeAt 2 (some 14) (v := ?_) rfl (by kernel_rfl) (by kernel_rfl) (by kernel_rfl) (by kernel_rfl) (by kernel_rfl) (fun _ _ _ h => h) (by exact ⟨c3, cd3⟩) (fun o hop => ?_) ?_
  rotate_left
  · injection hop with hop
    subst hop
    refine ⟨rfl, fun W hW => ?_⟩
    obtain ⟨s0, s1⟩ := hW
    go_simp
    first
    | rfl
    | rw [if_neg (by omega)]
  try simp only [Act.put, List.setIfInBounds_toArray, List.set_cons_zero, List.set_cons_succ]
  refine wpAnyD_takeAt 3 (some 15) (v := ?_) rfl (by kernel_rfl) (by kernel_rfl) (by kernel_rfl) (by kernel_rfl) (by kernel_rfl) (fun _ _ _ h => h) (by exact ⟨c3, cd3⟩) (fun o hop => ?_) ?_
  rotate_left
  · injection hop with hop
    subst hop
    refine ⟨rfl, fun W hW => ?_⟩
    obtain ⟨s0, s1⟩ := hW
    go_simp
    first
    | rfl
    | rw [if_neg (by omega)]
  try simp only [Act.put, List.setIfInBounds_toArray, List.set_cons_zero, List.set_cons_succ]
  refine wpAnyD_takeAt 4 (some 16) (v := ?_) rfl (by kernel_rfl) (by kernel_rfl) (by kernel_rfl) (by kernel_rfl) (by kernel_rfl) (fun _ _ _ h => h) (by exact ⟨c3, cd3⟩) (fun o hop => ?_) ?_
  rotate_left
  · injection hop with hop
    subst hop
    refine ⟨rfl, fun W hW => ?_⟩
    obtain ⟨s0, s1⟩ := hW
    go_simp
    first
    | rfl
    | rw [if_neg (by omega)]
  try simp only [Act.put, List.setIfInBounds_toArray, List.set_cons_zero, List.set_cons_succ]
  refine wpAnyD_takeAt 5 (some 17) (v := ?_) rfl (by kernel_rfl) (by kernel_rfl) (by kernel_rfl) (by kernel_rfl) (by kernel_rfl) (fun _ _ _ h => h) (by exact ⟨c3, cd3⟩) (fun o hop => ?_) ?_
  rotate_left
  · injection hop with hop
    subst hop
    refine ⟨rfl, fun W hW => ?_⟩
    obtain ⟨s0, s1⟩ := hW
    go_simp
    first
    | rfl
    | rw [if_neg (by omega)]
  try simp only [Act.put, List.setIfInBounds_toArray, List.set_cons_zero, List.set_cons_succ]
  refine wpAnyD_takeAt 6 (some 18) (v := ?_) rfl (by kernel_rfl) (by kernel_rfl) (by kernel_rfl) (by kernel_rfl) (by kernel_rfl) (fun _ _ _ h => h) (by exact ⟨c3, cd3⟩) (fun o hop => ?_) ?_
  rotate_left
  · injection hop with hop
    subst hop
    refine ⟨rfl, fun W hW => ?_⟩
    obtain ⟨s0, s1⟩ := hW
    go_simp
    first
    | rfl
    | rw [if_neg (by omega)]
  try simp only [Act.put, List.setIfInBounds_toArray, List.set_cons_zero, List.set_cons_succ]
  refine wpAnyD_takeAt 7 (some 19) (v := ?_) rfl (by kernel_rfl) (by kernel_rfl) (by kernel_rfl) (by kernel_rfl) (by kernel_rfl) (fun _ _ _ h => h) (by exact ⟨c3, cd3⟩) (fun o hop => ?_) ?_
  rotate_left
  · injection hop with hop
    subst hop
    refine ⟨rfl, fun W hW => ?_⟩
    obtain ⟨s0, s1⟩ := hW
    go_simp
    first
    | rfl
    | rw [if_neg (by omega)]
  try simp only [Act.put, List.setIfInBounds_toArray, List.set_cons_zero, List.set_cons_succ]
  refine wpAnyD_takeAt 8 (some 20) (v := ?_) rfl (by kernel_rfl) (by kernel_rfl) (by kernel_rfl) (by kernel_rfl) (by kernel_rfl) (fun _ _ _ h => h) (by exact ⟨c3, cd3⟩) (fun o hop => ?_) ?_
  rotate_left
  · injection hop with hop
    subst hop
    refine ⟨rfl, fun W hW => ?_⟩
    obtain ⟨s0, s1⟩ := hW
    go_simp
    first
    | rfl
    | rw [if_neg (by omega)]
  try simp only [Act.put, List.setIfInBounds_toArray, List.set_cons_zero, List.set_cons_succ]
  refine wpAnyD_takeAt 9 (some 21) (v := ?_) rfl (by kernel_rfl) (by kernel_rfl) (by kernel_rfl) (by kernel_rfl) (by kernel_rfl) (fun _ _ _ h => h) (by exact ⟨c3, cd3⟩) (fun o hop => ?_) ?_
  rotate_left
  · injection hop with hop
    subst hop
    refine ⟨rfl, fun W hW => ?_⟩
    obtain ⟨s0, s1⟩ := hW
    go_simp
    first
    | rfl
    | rw [if_neg (by omega)]
  try simp only [Act.put, List.setIfInBounds_toArray, List.set_cons_zero, List.set_cons_succ]
  refine wpAnyD_takeAt 10 (some 22) (v := ?_) rfl (by kernel_rfl) (by kernel_rfl) (by kernel_rfl) (by kernel_rfl) (by kernel_rfl) (fun _ _ _ h => h) (by exact ⟨c3, cd3⟩) (fun o hop => ?_) ?_
  rotate_left
  · injection hop with hop
    subst hop
    refine ⟨rfl, fun W hW => ?_⟩
    obtain ⟨s0, s1⟩ := hW
    go_simp
    first
    | rfl
    | rw [if_neg (by omega)]
  try simp only [Act.put, List.setIfInBounds_toArray, List.set_cons_zero, List.set_cons_succ]
  refine wpAnyD_takeAt 11 (some 23) (v := ?_) rfl (by kernel_rfl) (by kernel_rfl) (by kernel_rfl) (by kernel_rfl) (by kernel_rfl) (fun _ _ _ h => h) (by exact ⟨c3, cd3⟩) (fun o hop => ?_) ?_
  rotate_left
  · injection hop with hop
    subst hop
    refine ⟨rfl, fun W hW => ?_⟩
    obtain ⟨s0, s1⟩ := hW
    go_simp
    first
    | rfl
    | rw [if_neg (by omega)]
  try simp only [Act.put, List.setIfInBounds_toArray, List.set_cons_zero, List.set_cons_succ]
  refine wpAnyT_one (i := 12) (by kernel_rfl) rfl rfl (fun K' hK => ?_)
  have hdr : w3.drew.cell? ⟨V, k * 4 + 3, none⟩ = some (.bool d.shut) := cd3
  have hdf : w3.drew.frozen? ⟨V, k * 4 + 3, none⟩ = false := fd3
  go_simp
  refine hK.out _ _ (fun h => absurd rfl h) ?_
  clear hK K'
  refine wpAnyT_done (by kernel_rfl) ?_ _
  have hVs : w.heap.size ≤ V := own_at HOV3.out V rfl
  obtain ⟨curV, hcurV⟩ : ∃ cur, w3.heap[V]? = some (.cells cur 45 (0, 0)) := by
    rcases HOV3.out.2 with ⟨h1, _⟩ | ⟨g, cap, cur, h1, _, h2, _⟩
    · cases h1
    · cases h1; exact ⟨_, h2⟩
  have hke : KeepE 45 w3 (w3.setCell ⟨V, k * 4 + 3, none⟩ (.bool !d.shut)).drew := keep_set hcurV _ _
  have hb4 : Below w.heap.size w (w3.setCell ⟨V, k * 4 + 3, none⟩ (.bool !d.shut)).drew := (HU3.out.bel.setCell (p := ⟨V, k * 4 + 3, none⟩) hVs _).drew
  have HU4 := hide' (HU3.out.keep hke (by decide) (by decide) hb4)
  have HO4 : Hid ((w3.setCell ⟨V, k * 4 + 3, none⟩ (.bool !d.shut)).drew.ownsRow w.heap.size 45 4 (.slice (some ⟨V, 0, none⟩) ls cv) ls ((y.turn k).devs.flatMap DevM.cells)) := by
    have h1 := own_dev_set HOV3.out k (!d.shut) hk
    rw [← turn_is HD.out] at h1
    exact h1
  have HY4 : Hid (YardAt (w3.setCell ⟨V, k * 4 + 3, none⟩ (.bool !d.shut)).drew af ad (some ⟨V, 0, none⟩) cf cd cv (y.turn k)) := by
    refine ⟨HW.out.yard.f.below hb4 (Nat.le_refl _), HW.out.yard.d.below hb4 (Nat.le_refl _), ?_⟩
    rw [turn_len, ← HLS.out]
    exact rowAt_of_own HO4.out
  obtain ⟨w4, hw4⟩ : ∃ x, x = (w3.setCell ⟨V, k * 4 + 3, none⟩ (.bool !d.shut)).drew := ⟨_, rfl⟩
  rw [← hw4] at HU4 HY4 HO4 ⊢
  clear hw4 hke hb4 hcurV hVs c3 cd3 fd3 hdr hdf HU3 HOV3
  have HST : Hid (Calls Try.prog 29 #[.agg #[.int .i64 pt, .slice af lf cf, .slice ad ld cd, .slice (some ⟨V, 0, none⟩) ls cv]] w4 fun e w' => ∃ G' cg' L' E' D', e = .returned (.agg #[.int .i64 pt, .slice af lf cf, .slice ad ld cd, .slice (some ⟨V, 0, none⟩) ls cv, .slice (some ⟨G', 0, none⟩) nn cg', .slice (some ⟨L', 0, none⟩) nn nn, .slice (some ⟨E', 0, none⟩) nn nn, .slice (some ⟨D', 0, none⟩) nn nn]) ∧ (w'.ownsRow w4.heap.size 3 1 (.slice (some ⟨G', 0, none⟩) nn cg') nn (ints (y.turn k).grp) ∧ w'.ownsRow w4.heap.size 4 1 (.slice (some ⟨L', 0, none⟩) nn nn) nn ((y.turn k).live.map Value.bool) ∧ w'.ownsRow w4.heap.size 4 1 (.slice (some ⟨E', 0, none⟩) nn nn) nn ((y.turn k).earthed.map Value.bool) ∧ w'.ownsRow w4.heap.size 4 1 (.slice (some ⟨D', 0, none⟩) nn nn) nn ((y.turn k).load.map Value.bool)) ∧ Below w4.heap.size w4 w') := by
    have h1 := start_any (y.turn k) (HM.out.turn k) af ad (some ⟨V, 0, none⟩) cf cd cv w4 HY4.out
    rw [turn_len, turn_n] at h1
    rw [HPT.out, HLF.out, HLD.out, HLS.out, HNN.out]
    refine h1.mono ?_
    rintro e w' ⟨G', cg', L', E', D', rfl, h2, h3, h4, h5, h6⟩
    exact ⟨G', cg', L', E', D', rfl, ⟨h2, h3, h4, h5⟩, h6⟩
  have y0 : w4.cell? ⟨Y, 0, none⟩ = some (.int .i64 pt) := (cells_at HU4.out.hY 0).trans rfl
  have y1 : w4.cell? ⟨Y, 1, none⟩ = some (.slice af lf cf) := (cells_at HU4.out.hY 1).trans rfl
  have y2 : w4.cell? ⟨Y, 2, none⟩ = some (.slice ad ld cd) := (cells_at HU4.out.hY 2).trans rfl
  have y3 : w4.cell? ⟨Y, 3, none⟩ = some (.slice (some ⟨V, 0, none⟩) ls cv) := (cells_at HU4.out.hY 3).trans rfl
  go_wp2_with fail
  refine HST.out.mono ?_
  rintro e w5 ⟨G', cg', L', E', D', rfl, hwk, hb5⟩
  have HU5 := hide' (HU4.out.more hb5)
  clear HST HU4 y0 y1 y2 y3
  have a0 : w5.cell? ⟨A, 0, none⟩ = some (.int .i64 0) := (cells_at HU5.out.hA 0).trans rfl
  have b0 : w5.frozen? ⟨A, 0, none⟩ = false := frozen_no HU5.out.hA _
  have a1 : w5.cell? ⟨A, 1, none⟩ = some (.slice none 0 0) := (cells_at HU5.out.hA 1).trans rfl
  have b1 : w5.frozen? ⟨A, 1, none⟩ = false := frozen_no HU5.out.hA _
  have a2 : w5.cell? ⟨A, 2, none⟩ = some (.slice none 0 0) := (cells_at HU5.out.hA 2).trans rfl
  have b2 : w5.frozen? ⟨A, 2, none⟩ = false := frozen_no HU5.out.hA _
  have a3 : w5.cell? ⟨A, 3, none⟩ = some (.slice none 0 0) := (cells_at HU5.out.hA 3).trans rfl
  have b3 : w5.frozen? ⟨A, 3, none⟩ = false := frozen_no HU5.out.hA _
  have a4 : w5.cell? ⟨A, 4, none⟩ = some (.slice none 0 0) := (cells_at HU5.out.hA 4).trans rfl
  have b4 : w5.frozen? ⟨A, 4, none⟩ = false := frozen_no HU5.out.hA _
  have a5 : w5.cell? ⟨A, 5, none⟩ = some (.slice none 0 0) := (cells_at HU5.out.hA 5).trans rfl
  have b5 : w5.frozen? ⟨A, 5, none⟩ = false := frozen_no HU5.out.hA _
  have a6 : w5.cell? ⟨A, 6, none⟩ = some (.slice none 0 0) := (cells_at HU5.out.hA 6).trans rfl
  have b6 : w5.frozen? ⟨A, 6, none⟩ = false := frozen_no HU5.out.hA _
  have a7 : w5.cell? ⟨A, 7, none⟩ = some (.slice none 0 0) := (cells_at HU5.out.hA 7).trans rfl
  have b7 : w5.frozen? ⟨A, 7, none⟩ = false := frozen_no HU5.out.hA _
  have HAA : Hid (((((((((w5.setCell ⟨A, 0, none⟩ (.int .i64 pt)).setCell ⟨A, 1, none⟩ (.slice af lf cf)).setCell ⟨A, 2, none⟩ (.slice ad ld cd)).setCell ⟨A, 3, none⟩ (.slice (some ⟨V, 0, none⟩) ls cv)).setCell ⟨A, 4, none⟩ (.slice (some ⟨G', 0, none⟩) nn cg')).setCell ⟨A, 5, none⟩ (.slice (some ⟨L', 0, none⟩) nn nn)).setCell ⟨A, 6, none⟩ (.slice (some ⟨E', 0, none⟩) nn nn)).setCell ⟨A, 7, none⟩ (.slice (some ⟨D', 0, none⟩) nn nn)).heap[A]? = some (.cells #[.int .i64 pt, .slice af lf cf, .slice ad ld cd, .slice (some ⟨V, 0, none⟩) ls cv, .slice (some ⟨G', 0, none⟩) nn cg', .slice (some ⟨L', 0, none⟩) nn nn, .slice (some ⟨E', 0, none⟩) nn nn, .slice (some ⟨D', 0, none⟩) nn nn] 50 (0, 0))) := (set_any (set_any (set_any (set_any (set_any (set_any (set_any (set_any HU5.out.hA 0 _) 1 _) 2 _) 3 _) 4 _) 5 _) 6 _) 7 _).trans rfl
  have hs : ∀ q, q ≠ A → ((((((((w5.setCell ⟨A, 0, none⟩ (.int .i64 pt)).setCell ⟨A, 1, none⟩ (.slice af lf cf)).setCell ⟨A, 2, none⟩ (.slice ad ld cd)).setCell ⟨A, 3, none⟩ (.slice (some ⟨V, 0, none⟩) ls cv)).setCell ⟨A, 4, none⟩ (.slice (some ⟨G', 0, none⟩) nn cg')).setCell ⟨A, 5, none⟩ (.slice (some ⟨L', 0, none⟩) nn nn)).setCell ⟨A, 6, none⟩ (.slice (some ⟨E', 0, none⟩) nn nn)).setCell ⟨A, 7, none⟩ (.slice (some ⟨D', 0, none⟩) nn nn)).heap[q]? = w5.heap[q]? := fun q hj => by
    rw [Below.heap_setCell _ _ _ q hj, Below.heap_setCell _ _ _ q hj, Below.heap_setCell _ _ _ q hj, Below.heap_setCell _ _ _ q hj, Below.heap_setCell _ _ _ q hj, Below.heap_setCell _ _ _ q hj, Below.heap_setCell _ _ _ q hj, Below.heap_setCell _ _ _ q hj]
  have HBF : Hid (Below w.heap.size w ((((((((w5.setCell ⟨A, 0, none⟩ (.int .i64 pt)).setCell ⟨A, 1, none⟩ (.slice af lf cf)).setCell ⟨A, 2, none⟩ (.slice ad ld cd)).setCell ⟨A, 3, none⟩ (.slice (some ⟨V, 0, none⟩) ls cv)).setCell ⟨A, 4, none⟩ (.slice (some ⟨G', 0, none⟩) nn cg')).setCell ⟨A, 5, none⟩ (.slice (some ⟨L', 0, none⟩) nn nn)).setCell ⟨A, 6, none⟩ (.slice (some ⟨E', 0, none⟩) nn nn)).setCell ⟨A, 7, none⟩ (.slice (some ⟨D', 0, none⟩) nn nn))) := ((((((((HU5.out.bel.setCell (p := ⟨A, 0, none⟩) HU5.out.sA _).setCell (p := ⟨A, 1, none⟩) HU5.out.sA _).setCell (p := ⟨A, 2, none⟩) HU5.out.sA _).setCell (p := ⟨A, 3, none⟩) HU5.out.sA _).setCell (p := ⟨A, 4, none⟩) HU5.out.sA _).setCell (p := ⟨A, 5, none⟩) HU5.out.sA _).setCell (p := ⟨A, 6, none⟩) HU5.out.sA _).setCell (p := ⟨A, 7, none⟩) HU5.out.sA _)
  have hke : KeepE 50 w5 ((((((((w5.setCell ⟨A, 0, none⟩ (.int .i64 pt)).setCell ⟨A, 1, none⟩ (.slice af lf cf)).setCell ⟨A, 2, none⟩ (.slice ad ld cd)).setCell ⟨A, 3, none⟩ (.slice (some ⟨V, 0, none⟩) ls cv)).setCell ⟨A, 4, none⟩ (.slice (some ⟨G', 0, none⟩) nn cg')).setCell ⟨A, 5, none⟩ (.slice (some ⟨L', 0, none⟩) nn nn)).setCell ⟨A, 6, none⟩ (.slice (some ⟨E', 0, none⟩) nn nn)).setCell ⟨A, 7, none⟩ (.slice (some ⟨D', 0, none⟩) nn nn)) := fun q cur e1 fz hj he => hs q (fun e => by subst e; rw [HU5.out.hA] at hj; cases hj; exact he rfl)
  have HWF : Hid (∀ w2, KeepX ((((((((w5.setCell ⟨A, 0, none⟩ (.int .i64 pt)).setCell ⟨A, 1, none⟩ (.slice af lf cf)).setCell ⟨A, 2, none⟩ (.slice ad ld cd)).setCell ⟨A, 3, none⟩ (.slice (some ⟨V, 0, none⟩) ls cv)).setCell ⟨A, 4, none⟩ (.slice (some ⟨G', 0, none⟩) nn cg')).setCell ⟨A, 5, none⟩ (.slice (some ⟨L', 0, none⟩) nn nn)).setCell ⟨A, 6, none⟩ (.slice (some ⟨E', 0, none⟩) nn nn)).setCell ⟨A, 7, none⟩ (.slice (some ⟨D', 0, none⟩) nn nn)) w2 → RowAt w2 (.slice af y.fed.length cf) y.fed.length 1 (ints y.fed) → RowAt w2 (.slice ad y.drawn.length cd) y.drawn.length 1 (ints y.drawn) → WorkAt w2 (y.turn k) ⟨af, ad, some ⟨V, 0, none⟩, cf, cd, cv, G', cg', L', E', D'⟩) := fun w2 hk2 hrf hrd => by
    obtain ⟨h2, h3, h4, h5⟩ := hwk
    have hk3 := (hke.toX (by decide) (by decide) (by decide)).trans hk2
    refine ⟨⟨hrf, hrd, ?_⟩, ?_, ?_, ?_, ?_⟩
    · rw [turn_len, ← HLS.out]
      exact rowAt_of_own (own_keepX (own_below HO4.out hb5 (Nat.le_refl _)) hk3 (by simp))
    · rw [turn_n, ← HNN.out]
      exact rowAt_of_own (own_keepX h2 hk3 (by simp))
    · rw [turn_n, ← HNN.out]
      exact rowAt_of_own (own_keepX h3 hk3 (by simp))
    · rw [turn_n, ← HNN.out]
      exact rowAt_of_own (own_keepX h4 hk3 (by simp))
    · rw [turn_n, ← HNN.out]
      exact rowAt_of_own (own_keepX h5 hk3 (by simp))
  clear hs hke hwk hb5 HU5
  go_wp2
  refine bodyPost_ret (results_cell_row rfl _ _ A 50 _ (0, 0) _ rfl HAA.out Try.underlying50 rfl (by kernel_rfl)) rfl ?_
  refine HTO.out _ _ ⟨⟨af, ad, some ⟨V, 0, none⟩, cf, cd, cv, G', cg', L', E', D'⟩, ?_, HWF.out, HBF.out⟩
  unfold workV
  rw [turn_len, turn_n, ← HLS.out, ← HNN.out]
  show _ = Ending.returned (.agg #[.int .i64 y.points, .slice af y.fed.length cf, .slice ad y.drawn.length cd, .slice (some ⟨V, 0, none⟩) ls cv, _, _, _, _])
  rw [← HPT.out, ← HLF.out, ← HLD.out]
end Go.Proofs.Ytcnoipcpifackah
