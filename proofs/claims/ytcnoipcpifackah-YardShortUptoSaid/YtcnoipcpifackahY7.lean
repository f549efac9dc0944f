/- A yard at work, in the program: what start answers. -/
import Derived.Test.YtcnoipcpifackahYt
namespace Go.Proofs.Ytcnoipcpifackah
open Go.RowKit Go.Shelf

def zero8 : Array Value := #[.int .i64 0, .slice none 0 0, .slice none 0 0, .slice none 0 0, .slice none 0 0, .slice none 0 0, .slice none 0 0, .slice none 0 0]
/-- The blocks of start. -/
structure ASt (w wr : World) (Y A S : Nat) (yv sv : Array Value) : Prop where
  hY : wr.heap[Y]? = some (.cells yv 25 (0, 0))
  hA : wr.heap[A]? = some (.cells zero8 50 (0, 0))
  hS : wr.heap[S]? = some (.cells sv 50 (0, 0))
  nAS : A ≠ S
  sA : w.heap.size ≤ A
  sS : w.heap.size ≤ S
  bel : Below w.heap.size w wr
theorem ASt.more {w wr wr' : World} {Y A S : Nat} {yv sv : Array Value} (h : ASt w wr Y A S yv sv) (hb : Below wr.heap.size wr wr') : ASt w wr' Y A S yv sv :=
  ⟨(hb.block Y (Array.getElem?_eq_some_iff.1 h.hY).1).trans h.hY, (hb.block A (Array.getElem?_eq_some_iff.1 h.hA).1).trans h.hA, (hb.block S (Array.getElem?_eq_some_iff.1 h.hS).1).trans h.hS, h.nAS, h.sA, h.sS, h.bel.trans (hb.mono h.bel.size)⟩
theorem ASt.keep {w wr wr' : World} {Y A S : Nat} {yv sv : Array Value} (h : ASt w wr Y A S yv sv) (hk : KeepE 3 wr wr') (hb : Below w.heap.size w wr') : ASt w wr' Y A S yv sv :=
  ⟨(hk Y _ _ _ h.hY (by decide)).trans h.hY, (hk A _ _ _ h.hA (by decide)).trans h.hA, (hk S _ _ _ h.hS (by decide)).trans h.hS, h.nAS, h.sA, h.sS, hb⟩
theorem ASt.set {w wr : World} {Y A S j : Nat} {yv sv : Array Value} {x : Value} (h : ASt w wr Y A S yv sv) : ASt w (wr.setCell ⟨S, j, none⟩ x) Y A S yv (sv.setIfInBounds j x) :=
  ⟨(keep_set h.hS j x Y _ _ _ h.hY (by decide)).trans h.hY, (Below.heap_setCell _ _ _ A h.nAS).trans h.hA, set_any h.hS j x, h.nAS, h.sA, h.sS, h.bel.setCell (p := ⟨S, j, none⟩) h.sS x⟩
theorem grp0_snoc (k : Nat) : ints (grp0 k) ++ [.int .i64 (k : Int)] = ints (grp0 (k + 1)) := by
  unfold grp0 ints
  rw [List.range_succ]
  simp
theorem earths_snoc {ds : List DevM} {k : Nat} {d : DevM} (h : ds[k]? = some d) : earthsL (ds.take (k + 1)) = earthsL (ds.take k) ++ if d.shut && (d.kind == 3) then [d.a] else [] := by
  have hk := (List.getElem?_eq_some_iff.1 h)
  obtain ⟨hk, rfl⟩ := hk
  unfold earthsL
  rw [List.take_succ_eq_append_getElem hk, List.filter_append, List.map_append]
  congr 1
  by_cases hc : (ds[k].shut && (ds[k].kind == 3)) = true
  · rw [if_pos hc]; simp [List.filter, hc]
  · rw [if_neg hc]; simp [List.filter, hc]
theorem grpL_snoc {n : Nat} {ds : List DevM} {k : Nat} {d : DevM} (h : ds[k]? = some d) : grpL n (ds.take (k + 1)) = stepG (grpL n (ds.take k)) d := by
  obtain ⟨hk, rfl⟩ := (List.getElem?_eq_some_iff.1 h)
  unfold grpL grpF
  rw [List.take_succ_eq_append_getElem hk, List.foldl_append]
  rfl
theorem rising_len {n : Int} {l : List Int} (h : Rising n l) (hn : n ≤ 1000) : l.length ≤ 9000000000000000000 := by
  have key : ∀ (i : Nat) (x : Int), l[i]? = some x → (i : Int) ≤ x := by
    intro i
    induction i with
    | zero => intro x hx; exact (h 0 x (List.getElem?_eq_some_iff.1 hx).1 hx).1
    | succ i ih =>
      intro x hx
      have hlt := (List.getElem?_eq_some_iff.1 hx).1
      have h1 := ih l[i] (List.getElem?_eq_getElem (by omega))
      have h2 := (h (i + 1) x hlt hx).2.2 l[i] (by omega) (List.getElem?_eq_getElem (by omega))
      omega
  rcases Nat.eq_zero_or_pos l.length with h0 | h0
  · omega
  · have h1 := List.getElem?_eq_getElem (l := l) (i := l.length - 1) (by omega)
    have h2 := key _ _ h1
    have h3 := (h _ _ (by omega) h1).2.1
    omega
/-- The devices at work: the first k are done. -/
structure DSt (w X wr : World) (Y A S G n gc : Nat) (yv sv : Array Value) (ds : List DevM) (k : Nat) (ev : Value) : Prop where
  st : ASt w wr Y A S yv sv
  grp : wr.ownsRow w.heap.size 3 1 (.slice (some ⟨G, 0, none⟩) n gc) n (ints (grpL n (ds.take k)))
  ear : wr.ownsRow X.heap.size 3 1 ev (earthsL (ds.take k)).length (ints (earthsL (ds.take k)))
  size : X.heap.size ≤ wr.heap.size
  lt : G < X.heap.size
theorem DSt.more {w X wr wr' : World} {Y A S G n gc k : Nat} {yv sv : Array Value} {ds : List DevM} {ev : Value} (h : DSt w X wr Y A S G n gc yv sv ds k ev) (hb : Below wr.heap.size wr wr') : DSt w X wr' Y A S G n gc yv sv ds k ev :=
  ⟨h.st.more hb, own_below h.grp hb (Nat.le_refl _), own_below h.ear hb (Nat.le_refl _), Nat.le_trans h.size hb.size, h.lt⟩
theorem DSt.app {w X wr wr' : World} {Y A S G n gc k : Nat} {yv sv : Array Value} {ds : List DevM} {ev ev' : Value} {d : DevM} {o : Obj} (h : DSt w X wr Y A S G n gc yv sv ds k ev) (hd : ds[k]? = some d) (hc : (d.shut && (d.kind == 3)) = true) (hg : (wr.alloc o).grownBy wr' ev.ownBlock) (ho : wr'.ownsRow X.heap.size 3 1 ev' ((earthsL (ds.take k)).length + 1) (ints (earthsL (ds.take k)) ++ [.int .i64 d.a])) (hw : w.heap.size ≤ X.heap.size) : DSt w X wr' Y A S G n gc yv sv ds (k + 1) ev' := by
  have hke : KeepE 3 wr wr' := (KeepE.alloc 3 wr o).trans (KeepE.grown (h.ear.alloc o) hg)
  have hb : Below X.heap.size wr wr' := below_app (Below.refl _ wr) h.ear (Nat.le_refl _) h.size hg
  have hB : Below w.heap.size w wr' := h.st.bel.trans (hb.mono hw)
  have hj : d.joins = false := by
    unfold DevM.joins
    rw [Bool.and_eq_true, beq_iff_eq] at hc
    rw [hc.2]; simp
  refine ⟨h.st.keep hke hB, ?_, ?_, Nat.le_trans h.size hb.size, h.lt⟩
  · rw [grpL_snoc hd, stepG, hj]
    exact own_other h.grp (fun q hq => by cases hq; exact hb.block G h.lt)
  · rw [earths_snoc hd, if_pos hc, List.length_append]
    have e : ints (earthsL (ds.take k) ++ [d.a]) = ints (earthsL (ds.take k)) ++ [.int .i64 d.a] := by simp [ints]
    rw [e]
    exact ho
theorem DSt.join {w X wr wr' : World} {Y A S G n gc k : Nat} {yv sv : Array Value} {ds : List DevM} {ev : Value} {d : DevM} (h : DSt w X wr Y A S G n gc yv sv ds k ev) (hd : ds[k]? = some d) (hj : d.joins = true) (hb : But G wr wr') (ho : wr'.ownsRow w.heap.size 3 1 (.slice (some ⟨G, 0, none⟩) n gc) n (ints (joinL (grpL n (ds.take k)) d.a.toNat d.b.toNat))) : DSt w X wr' Y A S G n gc yv sv ds (k + 1) ev := by
  obtain ⟨cur, hcur⟩ := own_blk h.grp
  have hG := own_at h.grp G rfl
  have hne : ∀ (q : Nat) (e2 : TypeId) (c2 : Array Value), wr.heap[q]? = some (.cells c2 e2 (0, 0)) → e2 ≠ 3 → q ≠ G := fun q e2 c2 h1 h2 e => by
    rw [e, hcur] at h1; cases h1; exact h2 rfl
  have hc : (d.shut && (d.kind == 3)) = false := by
    unfold DevM.joins at hj
    rw [Bool.and_eq_true, bne_iff_ne] at hj
    simp [hj.2]
  have hkp : ∀ (q : Nat) (e2 : TypeId) (c2 : Array Value), wr.heap[q]? = some (.cells c2 e2 (0, 0)) → e2 ≠ 3 → wr'.heap[q]? = some (.cells c2 e2 (0, 0)) := fun q e2 c2 h1 h2 => (hb.block q (Array.getElem?_eq_some_iff.1 h1).1 (hne q e2 c2 h1 h2)).trans h1
  refine ⟨⟨hkp Y 25 _ h.st.hY (by decide), hkp A 50 _ h.st.hA (by decide), hkp S 50 _ h.st.hS (by decide), h.st.nAS, h.st.sA, h.st.sS, ⟨hb.os.trans h.st.bel.os, hb.tape.trans h.st.bel.tape, hb.output.trans h.st.bel.output, Nat.le_trans h.st.bel.size hb.size, fun q hq => (hb.block q (Nat.lt_of_lt_of_le hq h.st.bel.size) (by omega)).trans (h.st.bel.block q hq)⟩⟩, ?_, ?_, Nat.le_trans h.size hb.size, h.lt⟩
  · rw [grpL_snoc hd, stepG, if_pos hj]
    exact ho
  · rw [earths_snoc hd, hc]
    simp only [Bool.false_eq_true, if_false, List.append_nil]
    refine own_other h.ear (fun q hq => hb.block q (h.ear.lt q hq).2 (fun e => ?_))
    have := own_at h.ear q hq
    have := h.lt
    omega
theorem DSt.skip {w X wr : World} {Y A S G n gc k : Nat} {yv sv : Array Value} {ds : List DevM} {ev : Value} {d : DevM} (h : DSt w X wr Y A S G n gc yv sv ds k ev) (hd : ds[k]? = some d) (hs : d.shut = false) : DSt w X wr Y A S G n gc yv sv ds (k + 1) ev := by
  refine ⟨h.st, ?_, ?_, h.size, h.lt⟩
  · rw [grpL_snoc hd, stepG, DevM.joins, hs]
    exact h.grp
  · rw [earths_snoc hd, hs]
    simp only [Bool.false_and, Bool.false_eq_true, if_false, List.append_nil]
    exact h.ear
theorem earths_len (ds : List DevM) (k : Nat) : (earthsL (ds.take k)).length ≤ k := by
  unfold earthsL
  rw [List.length_map]
  exact Nat.le_trans (List.length_filter_le _ _) (by rw [List.length_take]; omega)
set_option maxRecDepth 100000 in
set_option maxHeartbeats 2000000 in
theorem start_any (y : YardM) (hm : MayY y) (af ad as' : Option Addr) (cf cd cs : Nat) (w : World) (hy : YardAt w af ad as' cf cd cs y) :
    Calls Try.prog 29 #[.agg #[.int .i64 y.points, .slice af y.fed.length cf, .slice ad y.drawn.length cd, .slice as' y.devs.length cs]] w fun e w' => ∃ G cg L E D, e = .returned (.agg #[.int .i64 y.points, .slice af y.fed.length cf, .slice ad y.drawn.length cd, .slice as' y.devs.length cs, .slice (some ⟨G, 0, none⟩) y.n cg, .slice (some ⟨L, 0, none⟩) y.n y.n, .slice (some ⟨E, 0, none⟩) y.n y.n, .slice (some ⟨D, 0, none⟩) y.n y.n]) ∧
      w'.ownsRow w.heap.size 3 1 (.slice (some ⟨G, 0, none⟩) y.n cg) y.n (ints y.grp) ∧ w'.ownsRow w.heap.size 4 1 (.slice (some ⟨L, 0, none⟩) y.n y.n) y.n (y.live.map Value.bool) ∧ w'.ownsRow w.heap.size 4 1 (.slice (some ⟨E, 0, none⟩) y.n y.n) y.n (y.earthed.map Value.bool) ∧ w'.ownsRow w.heap.size 4 1 (.slice (some ⟨D, 0, none⟩) y.n y.n) y.n (y.load.map Value.bool) ∧ Below w.heap.size w w' := by
  obtain ⟨i3, hi3, h30, h31, h32⟩ := info_parts Try.info3
  have HM := hide' hm
  have HY := hide' hy
  obtain ⟨hn1, hn10, hpn⟩ := hm.n_le
  have hd10 := hm.d
  rw [hpn]
  obtain ⟨n, hn⟩ : ∃ n, n = y.n := ⟨_, rfl⟩
  obtain ⟨lf, hlf⟩ : ∃ l, l = y.fed.length := ⟨_, rfl⟩
  obtain ⟨ld, hld⟩ : ∃ l, l = y.drawn.length := ⟨_, rfl⟩
  obtain ⟨ls, hls⟩ : ∃ l, l = y.devs.length := ⟨_, rfl⟩
  have HLF := hide' hlf
  have HLD := hide' hld
  have HLS := hide' hls
  have HNN := hide' hn
  have HPN := hide' hpn
  rw [← hn, ← hlf, ← hld, ← hls]
  rw [← hn] at hn1 hn10
  rw [← hls] at hd10
  clear hy hm hn hlf hld hls hpn
  go_enter Try.func29, Try.ntmps29
  go_upto_region 2 with fail
  have HA0 : Hid (ASt w (((w.alloc (.cells #[.int .i64 n, .slice af lf cf, .slice ad ld cd, .slice as' ls cs] 25)).alloc (.cells #[.int .i64 0, .slice none 0 0, .slice none 0 0, .slice none 0 0, .slice none 0 0, .slice none 0 0, .slice none 0 0, .slice none 0 0] 50)).alloc (.cells #[.int .i64 n, .slice af lf cf, .slice ad ld cd, .slice as' ls cs, .slice none 0 0, .slice none 0 0, .slice none 0 0, .slice none 0 0] 50)) w.heap.size (w.heap.size + 1) (w.heap.size + 1 + 1) #[.int .i64 n, .slice af lf cf, .slice ad ld cd, .slice as' ls cs] #[.int .i64 n, .slice af lf cf, .slice ad ld cd, .slice as' ls cs, .slice none 0 0, .slice none 0 0, .slice none 0 0, .slice none 0 0]) := by
    have hA := alloc_new (w.alloc (.cells #[.int .i64 n, .slice af lf cf, .slice ad ld cd, .slice as' ls cs] 25)) (.cells #[.int .i64 0, .slice none 0 0, .slice none 0 0, .slice none 0 0, .slice none 0 0, .slice none 0 0, .slice none 0 0, .slice none 0 0] 50)
    have hS := alloc_new ((w.alloc (.cells #[.int .i64 n, .slice af lf cf, .slice ad ld cd, .slice as' ls cs] 25)).alloc (.cells #[.int .i64 0, .slice none 0 0, .slice none 0 0, .slice none 0 0, .slice none 0 0, .slice none 0 0, .slice none 0 0, .slice none 0 0] 50)) (.cells #[.int .i64 n, .slice af lf cf, .slice ad ld cd, .slice as' ls cs, .slice none 0 0, .slice none 0 0, .slice none 0 0, .slice none 0 0] 50)
    rw [World.size_alloc] at hA
    rw [World.size_alloc, World.size_alloc] at hS
    exact ⟨(alloc_old _ _ (by simp; omega)).trans ((alloc_old _ _ (by simp)).trans (alloc_new _ _)), (alloc_old _ _ (by simp)).trans hA, hS, by omega, by omega, by omega, ((below_al w _).alloc (by simp) _).alloc (by simp; omega) _⟩
  obtain ⟨w1, hw1⟩ : ∃ x, x = ((w.alloc (.cells #[.int .i64 n, .slice af lf cf, .slice ad ld cd, .slice as' ls cs] 25)).alloc (.cells #[.int .i64 0, .slice none 0 0, .slice none 0 0, .slice none 0 0, .slice none 0 0, .slice none 0 0, .slice none 0 0, .slice none 0 0] 50)).alloc (.cells #[.int .i64 n, .slice af lf cf, .slice ad ld cd, .slice as' ls cs, .slice none 0 0, .slice none 0 0, .slice none 0 0, .slice none 0 0] 50) := ⟨_, rfl⟩
  rw [← hw1] at HA0 ⊢
  obtain ⟨S, hS⟩ : ∃ S, S = w.heap.size + 1 + 1 := ⟨_, rfl⟩
  rw [← hS] at HA0 ⊢
  obtain ⟨A, hA⟩ : ∃ A, A = w.heap.size + 1 := ⟨_, rfl⟩
  rw [← hA] at HA0 ⊢
  obtain ⟨Y, hY⟩ : ∃ Y, Y = w.heap.size := ⟨_, rfl⟩
  have HA1 : Hid (ASt w w1 Y A S #[.int .i64 n, .slice af lf cf, .slice ad ld cd, .slice as' ls cs] #[.int .i64 n, .slice af lf cf, .slice ad ld cd, .slice as' ls cs, .slice none 0 0, .slice none 0 0, .slice none 0 0, .slice none 0 0]) := by rw [hY]; exact HA0
  rw [show (Value.pointer (some { block := w.heap.size, off := 0 })) = Value.pointer (some { block := Y, off := 0 }) by rw [hY]]
  clear hw1 hS hA hY HA0
  have y0 : w1.cell? ⟨Y, 0, none⟩ = some (.int .i64 n) := (cells_at HA1.out.hY 0).trans rfl
  go_wp2_with fail
  clear y0
  go_loopw [12] (fun i wr => ∃ (k : Nat) (gv : Value), i = .int .i64 k ∧ k ≤ n ∧ Hid (ASt w wr Y A S #[.int .i64 n, .slice af lf cf, .slice ad ld cd, .slice as' ls cs] #[.int .i64 n, .slice af lf cf, .slice ad ld cd, .slice as' ls cs, gv, .slice none 0 0, .slice none 0 0, .slice none 0 0]) ∧ Hid (wr.ownsRow w.heap.size 3 1 gv k (ints (grp0 k)))) (fun i _ => n - (intOf i).toNat)
  case atStart => exact ⟨0, _, rfl, Nat.zero_le _, HA1, World.ownsRow_nil _ _ _ _⟩
  case round =>
    clear HA1
    obtain ⟨k, gv, rfl, hk, HST, HOW⟩ := hrel
    obtain ⟨ga, gc, rfl⟩ := own_slice HOW.out
    by_cases hlt : k < n
    · have s4 : wr.cell? ⟨S, 4, none⟩ = some (.slice ga k gc) := (cells_at HST.out.hS 4).trans rfl
      have hsz : w.heap.size ≤ wr.heap.size := HST.out.bel.size
      go_wp2_with (at_builtin; refine wpList_append_own _ rfl _ _ 22 rfl w.heap.size 3 i3 (.int .i64 0) 1 8 Try.underlying22 hi3 h30 h31 h32 rfl (by decide) _ _ _ rfl (HOW.out.alloc _) ⟨wr.heap.size, 0, none⟩ 1 1 [.int .i64 k] rfl rfl (cell_one_new _ _ _) (one_cell rfl) (by unfold maxLen; omega) (by omega) (by simp; omega) ?_; intro v' w2 hown' hgrow _; refine Still.go ?_)
      unfold Still
      obtain ⟨ga', gc', rfl⟩ := own_slice hown'
      have hke : KeepE 3 wr w2 := (KeepE.alloc 3 wr _).trans (KeepE.grown (HOW.out.alloc _) hgrow)
      have HST2 := hide' (HST.out.keep hke (below_app HST.out.bel HOW.out (Nat.le_refl _) hsz hgrow))
      have s4' : w2.cell? ⟨S, 4, none⟩ = some (.slice ga k gc) := (cells_at HST2.out.hS 4).trans rfl
      have f4 : w2.frozen? ⟨S, 4, none⟩ = false := frozen_no HST2.out.hS _
      have HFIN := hide' (HST2.out.set (j := 4) (x := .slice ga' (k + 1) gc'))
      have HOW2 : Hid ((w2.setCell ⟨S, 4, none⟩ (.slice ga' (k + 1) gc')).ownsRow w.heap.size 3 1 (.slice ga' (k + 1) gc') (k + 1) (ints (grp0 (k + 1)))) := by
        have h1 := own_keep hown' (keep_set HST2.out.hS 4 (.slice ga' (k + 1) gc')) (by decide)
        rw [grp0_snoc] at h1
        exact h1
      clear hown' hgrow hke HST HST2 HOW s4
      go_wp2
      go_roundw
      case rel => exact ⟨k + 1, _, by go_num, by omega, HFIN, HOW2⟩
      case measure => simp [intOf]; omega
    · have hke : n = k := by omega
      subst hke
      obtain ⟨G, rfl⟩ : ∃ G, ga = some ⟨G, 0, none⟩ := by
        rcases HOW.out.2 with ⟨_, h0⟩ | ⟨g, cap, cur, h1, _⟩
        · omega
        · cases h1; exact ⟨g, rfl⟩
      obtain ⟨X, hX⟩ : ∃ X, X = wr := ⟨_, rfl⟩
      subst hX
      have HDS0 : Hid (DSt w X X Y A S G n gc #[.int .i64 n, .slice af lf cf, .slice ad ld cd, .slice as' ls cs] #[.int .i64 n, .slice af lf cf, .slice ad ld cd, .slice as' ls cs, .slice (some ⟨G, 0, none⟩) n gc, .slice none 0 0, .slice none 0 0, .slice none 0 0] y.devs 0 (.slice none 0 0)) := ⟨HST.out, HOW.out, World.ownsRow_nil _ _ _ _, Nat.le_refl _, (HOW.out.lt G rfl).2⟩
      have HWX : Hid (w.heap.size ≤ X.heap.size) := HST.out.bel.size
      have y3 : X.cell? ⟨Y, 3, none⟩ = some (.slice as' ls cs) := (cells_at HST.out.hY 3).trans rfl
      have HROW : Hid (RowAt w (.slice as' ls cs) ls 4 (y.devs.flatMap DevM.cells)) := by have h5 := HY.out.s; rw [← HLS.out] at h5; exact h5
      clear HST HOW
      go_wp2_with fail
      clear y3
      go_loopw [5, 25] (fun ev i wr => ∃ (k : Nat), i = .int .i64 k ∧ k ≤ ls ∧ Hid (DSt w X wr Y A S G n gc #[.int .i64 n, .slice af lf cf, .slice ad ld cd, .slice as' ls cs] #[.int .i64 n, .slice af lf cf, .slice ad ld cd, .slice as' ls cs, .slice (some ⟨G, 0, none⟩) n gc, .slice none 0 0, .slice none 0 0, .slice none 0 0] y.devs k ev)) (fun _ i _ => ls - (intOf i).toNat)
      case atStart => exact ⟨0, rfl, Nat.zero_le _, HDS0⟩
      case round =>
        clear HDS0
        obtain ⟨k, rfl, hk2, HDS⟩ := hrel
        obtain ⟨ae, ce, rfl⟩ := own_slice HDS.out.ear
        by_cases hlt2 : k < ls
        · obtain ⟨bt, ot, ct', ex, hbt, hct⟩ := row_elem (f := DevM.cells) (fun _ => rfl) HROW.out k (by rw [← HLS.out]; exact hlt2) (by decide)
          cases ex
          have hkl : k < y.devs.length := by rw [← HLS.out]; exact hlt2
          obtain ⟨u, hu⟩ : ∃ u, u = y.devs[k] := ⟨_, rfl⟩
          rw [← hu] at hct
          have HK : Hid (y.devs[k]? = some u) := by show _ = _; rw [hu]; exact List.getElem?_eq_getElem hkl
          have HOK : Hid (DevOk y.points u) := HM.out.o u (by rw [hu]; exact List.getElem_mem hkl)
          have d0 := up_cell HDS.out.st.bel (hct 0 _ rfl)
          have d1 := up_cell HDS.out.st.bel (hct 1 _ rfl)
          have d2 := up_cell HDS.out.st.bel (hct 2 _ rfl)
          have d3 := up_cell HDS.out.st.bel (hct 3 _ rfl)
          rw [Nat.add_zero] at d0
          obtain ⟨x0, x1, x2, x3⟩ := u
          dsimp only at d0 d1 d2 d3
          have hel := earths_len y.devs k
          obtain ⟨el, hele⟩ : ∃ l, l = (earthsL (y.devs.take k)).length := ⟨_, rfl⟩
          have HEL := hide' hele
          have HDA : Hid (∀ o, DSt w X (wr.alloc o) Y A S G n gc #[.int .i64 n, .slice af lf cf, .slice ad ld cd, .slice (some ⟨bt, ot, none⟩) ls cs] #[.int .i64 n, .slice af lf cf, .slice ad ld cd, .slice (some ⟨bt, ot, none⟩) ls cs, .slice (some ⟨G, 0, none⟩) n gc, .slice none 0 0, .slice none 0 0, .slice none 0 0] y.devs k (.slice ae el ce)) := fun o => by have h1 := HDS.out.more (below_al _ o); rw [← hele] at h1; exact h1
          rw [← hele] at hel
          rw [← hele]
          clear hct hu hbt hkl hele HDS
          cases x3 with
          | false =>
            have HF : Hid (∀ o, DSt w X (wr.alloc o) Y A S G n gc #[.int .i64 n, .slice af lf cf, .slice ad ld cd, .slice (some ⟨bt, ot, none⟩) ls cs] #[.int .i64 n, .slice af lf cf, .slice ad ld cd, .slice (some ⟨bt, ot, none⟩) ls cs, .slice (some ⟨G, 0, none⟩) n gc, .slice none 0 0, .slice none 0 0, .slice none 0 0] y.devs (k + 1) (.slice ae el ce)) := fun o => (HDA.out o).skip HK.out rfl
            go_wp2
            go_roundw
            case rel => exact ⟨k + 1, by go_num, by omega, HF.out _⟩
            case measure => simp [intOf]; omega
          | true =>
            by_cases h3 : x0 = 3
            · subst h3
              have hss : w.heap.size ≤ X.heap.size := HWX.out
              have hxs : ∀ o, X.heap.size ≤ (wr.alloc o).heap.size := fun o => (HDA.out o).size
              have hxs2 := hxs (.cells #[] 0)
              simp only [World.size_alloc] at hxs2
              have HEA : Hid (∀ o, (wr.alloc o).ownsRow X.heap.size 3 1 (.slice ae el ce) el (ints (earthsL (y.devs.take k)))) := fun o => by have h1 := (HDA.out o).ear; rw [← HEL.out] at h1; exact h1
              clear hxs
              go_wp2_with (at_builtin; refine wpList_append_own _ rfl _ _ 22 rfl X.heap.size 3 i3 (.int .i64 0) 1 8 Try.underlying22 hi3 h30 h31 h32 rfl (by decide) _ _ _ rfl ((HEA.out _).alloc _) ⟨wr.heap.size + 1, 0, none⟩ 1 1 [.int .i64 x1] rfl rfl (by have h9 := cell_one_new (wr.alloc (.cells #[.int .i64 3, .int .i64 x1, .int .i64 x2, .bool true] 45)) (.int .i64 x1) 3; simp only [World.size_alloc] at h9; exact h9) (one_cell rfl) (by unfold maxLen; omega) (by omega) (by simp; omega) ?_; intro v' w2 hown' hgrow _; refine Still.go ?_)
              unfold Still
              have HF := hide' ((HDA.out _).app HK.out rfl hgrow (by rw [← HEL.out]; exact hown') hss)
              clear hown' hgrow HDA HEA
              go_wp2
              go_roundw
              case rel => exact ⟨k + 1, by go_num, by omega, HF⟩
              case measure => simp [intOf]; omega
            · have k3 : (x0 == 3) = false := by simp [h3]
              obtain ⟨a, b, rfl, rfl, ha, hb⟩ : ∃ a b : Nat, x1 = (a : Int) ∧ x2 = (b : Int) ∧ a < n ∧ b < n := by
                have h5 := HPN.out
                have h6 := HNN.out
                rcases HOK.out with ⟨_, h1, h2, _⟩ | ⟨h1, _⟩
                · dsimp only at h1 h2
                  exact ⟨x1.toNat, x2.toNat, by omega, by omega, by omega, by omega⟩
                · exact absurd h1 h3
              have HJ : Hid (∀ o, Calls Try.prog 46 #[.agg #[.int .i64 n, .slice af lf cf, .slice ad ld cd, .slice (some ⟨bt, ot, none⟩) ls cs, .slice (some ⟨G, 0, none⟩) n gc, .slice none 0 0, .slice none 0 0, .slice none 0 0], .int .i64 a, .int .i64 b] (wr.alloc o) fun e w' => e = .returned (.tuple #[]) ∧ DSt w X w' Y A S G n gc #[.int .i64 n, .slice af lf cf, .slice ad ld cd, .slice (some ⟨bt, ot, none⟩) ls cs] #[.int .i64 n, .slice af lf cf, .slice ad ld cd, .slice (some ⟨bt, ot, none⟩) ls cs, .slice (some ⟨G, 0, none⟩) n gc, .slice none 0 0, .slice none 0 0, .slice none 0 0] y.devs (k + 1) (.slice ae el ce)) := fun o => by
                refine (join_any (grpL n (y.devs.take k)) a b n G gc w.heap.size _ _ _ _ _ _ _ _ _ (wr.alloc o) (HDA.out o).grp ha hb (by omega)).mono ?_
                rintro e w' ⟨rfl, ho, hbt⟩
                exact ⟨rfl, (HDA.out o).join HK.out (by unfold DevM.joins; simp [h3]) hbt (by simpa using ho)⟩
              have s0 : ∀ o, (wr.alloc o).cell? ⟨S, 0, none⟩ = some (.int .i64 n) := fun o => (cells_at (HDA.out o).st.hS 0).trans rfl
              have s1 : ∀ o, (wr.alloc o).cell? ⟨S, 1, none⟩ = some (.slice af lf cf) := fun o => (cells_at (HDA.out o).st.hS 1).trans rfl
              have s2 : ∀ o, (wr.alloc o).cell? ⟨S, 2, none⟩ = some (.slice ad ld cd) := fun o => (cells_at (HDA.out o).st.hS 2).trans rfl
              have s3 : ∀ o, (wr.alloc o).cell? ⟨S, 3, none⟩ = some (.slice (some ⟨bt, ot, none⟩) ls cs) := fun o => (cells_at (HDA.out o).st.hS 3).trans rfl
              have s4 : ∀ o, (wr.alloc o).cell? ⟨S, 4, none⟩ = some (.slice (some ⟨G, 0, none⟩) n gc) := fun o => (cells_at (HDA.out o).st.hS 4).trans rfl
              have s5 : ∀ o, (wr.alloc o).cell? ⟨S, 5, none⟩ = some (.slice none 0 0) := fun o => (cells_at (HDA.out o).st.hS 5).trans rfl
              have s6 : ∀ o, (wr.alloc o).cell? ⟨S, 6, none⟩ = some (.slice none 0 0) := fun o => (cells_at (HDA.out o).st.hS 6).trans rfl
              have s7 : ∀ o, (wr.alloc o).cell? ⟨S, 7, none⟩ = some (.slice none 0 0) := fun o => (cells_at (HDA.out o).st.hS 7).trans rfl
              clear HDA
              go_wp2_with fail
              refine (HJ.out _).mono ?_
              rintro e w2 ⟨rfl, hds⟩
              have HF := hide' hds
              clear hds HJ s0 s1 s2 s3 s4 s5 s6 s7 d0 d1 d2 d3
              go_wp2
              go_roundw
              case rel => exact ⟨k + 1, by go_num, by omega, HF⟩
              case measure => simp [intOf]; omega
        · have hke : ls = k := by omega
          subst hke
          have HGR : Hid (wr.ownsRow w.heap.size 3 1 (.slice (some ⟨G, 0, none⟩) n gc) n (ints y.grp)) := by
            have h1 := HDS.out.grp
            rw [List.take_of_length_le (by rw [HLS.out]; exact Nat.le_refl _), HNN.out] at h1
            rw [HNN.out]
            exact h1
          have HER : Hid (RowAt wr (.slice ae (earthsL y.devs).length ce) (earthsL y.devs).length 1 (ints (earthsL y.devs))) := by
            have h1 := rowAt_of_own HDS.out.ear
            rw [List.take_of_length_le (by rw [HLS.out]; exact Nat.le_refl _)] at h1
            exact h1
          have HST := hide' HDS.out.st
          have hele : (earthsL (y.devs.take ls)).length = (earthsL y.devs).length := by rw [List.take_of_length_le (by rw [HLS.out]; exact Nat.le_refl _)]
          rw [hele]
          have hel : (earthsL y.devs).length ≤ 10 := by have h1 := earths_len y.devs ls; rw [hele] at h1; omega
          have hgl : y.grp.length = n := by rw [YardM.grp, grpL_len, ← HNN.out]
          have hpt : y.points = (n : Int) := by rw [HNN.out]; exact HPN.out
          have HW1 : Hid (∀ w', Below wr.heap.size wr w' → Calls Try.prog 47 #[.agg #[.int .i64 n, .slice af lf cf, .slice ad ld cd, .slice as' ls cs, .slice (some ⟨G, 0, none⟩) n gc, .slice none 0 0, .slice none 0 0, .slice none 0 0], .slice af lf cf] w' fun e w'' => ∃ T, e = .returned (.slice (some ⟨T, 0, none⟩) n n) ∧ w''.ownsRow w'.heap.size 4 1 (.slice (some ⟨T, 0, none⟩) n n) n (y.live.map Value.bool) ∧ Below w'.heap.size w' w'') := fun w' hb => by
            have h1 := (HY.out.f).below (HST.out.bel.trans (hb.mono HST.out.bel.size)) (Nat.le_refl _)
            have h2 := rowAt_of_own (own_below HGR.out hb (Nat.le_refl _))
            rw [← HLF.out] at h1
            have h3 := with_any y.grp y.fed n af ad as' (some ⟨G, 0, none⟩) lf cf ld cd ls cs gc (.slice af lf cf) w' (by rw [← HLF.out]; exact h1) h2 hgl (fun q hq => by have := HM.out.f.at hq; omega) (by omega) (by have := HM.out.f; have h9 := HLF.out; exact rising_len this (by omega))
            rw [HNN.out] at h3 ⊢
            exact h3
          have HW2 : Hid (∀ w', Below wr.heap.size wr w' → Calls Try.prog 47 #[.agg #[.int .i64 n, .slice af lf cf, .slice ad ld cd, .slice as' ls cs, .slice (some ⟨G, 0, none⟩) n gc, .slice none 0 0, .slice none 0 0, .slice none 0 0], .slice ae (earthsL y.devs).length ce] w' fun e w'' => ∃ T, e = .returned (.slice (some ⟨T, 0, none⟩) n n) ∧ w''.ownsRow w'.heap.size 4 1 (.slice (some ⟨T, 0, none⟩) n n) n (y.earthed.map Value.bool) ∧ Below w'.heap.size w' w'') := fun w' hb => by
            have h1 := HER.out.below hb (Nat.le_refl _)
            have h2 := rowAt_of_own (own_below HGR.out hb (Nat.le_refl _))
            have h3 := with_any y.grp (earthsL y.devs) n af ad as' (some ⟨G, 0, none⟩) lf cf ld cd ls cs gc (.slice ae (earthsL y.devs).length ce) w' h1 h2 hgl (fun q hq => by have := HM.out.earths hq; omega) (by omega) (by omega)
            rw [HNN.out] at h3 ⊢
            exact h3
          have HW3 : Hid (∀ w', Below wr.heap.size wr w' → Calls Try.prog 47 #[.agg #[.int .i64 n, .slice af lf cf, .slice ad ld cd, .slice as' ls cs, .slice (some ⟨G, 0, none⟩) n gc, .slice none 0 0, .slice none 0 0, .slice none 0 0], .slice ad ld cd] w' fun e w'' => ∃ T, e = .returned (.slice (some ⟨T, 0, none⟩) n n) ∧ w''.ownsRow w'.heap.size 4 1 (.slice (some ⟨T, 0, none⟩) n n) n (y.load.map Value.bool) ∧ Below w'.heap.size w' w'') := fun w' hb => by
            have h1 := (HY.out.d).below (HST.out.bel.trans (hb.mono HST.out.bel.size)) (Nat.le_refl _)
            have h2 := rowAt_of_own (own_below HGR.out hb (Nat.le_refl _))
            rw [← HLD.out] at h1
            have h3 := with_any y.grp y.drawn n af ad as' (some ⟨G, 0, none⟩) lf cf ld cd ls cs gc (.slice ad ld cd) w' (by rw [← HLD.out]; exact h1) h2 hgl (fun q hq => by have := HM.out.w.at hq; omega) (by omega) (by have := HM.out.w; have h9 := HLD.out; exact rising_len this (by omega))
            rw [HNN.out] at h3 ⊢
            exact h3
          clear HDS hele hgl hpt HER
          go_wp2_with fail
          have p0 : wr.cell? ⟨S, 0, none⟩ = some (.int .i64 n) := (cells_at HST.out.hS 0).trans rfl
          have p1 : wr.cell? ⟨S, 1, none⟩ = some (.slice af lf cf) := (cells_at HST.out.hS 1).trans rfl
          have p2 : wr.cell? ⟨S, 2, none⟩ = some (.slice ad ld cd) := (cells_at HST.out.hS 2).trans rfl
          have p3 : wr.cell? ⟨S, 3, none⟩ = some (.slice as' ls cs) := (cells_at HST.out.hS 3).trans rfl
          have p4 : wr.cell? ⟨S, 4, none⟩ = some (.slice (some ⟨G, 0, none⟩) n gc) := (cells_at HST.out.hS 4).trans rfl
          have p5 : wr.cell? ⟨S, 5, none⟩ = some (.slice none 0 0) := (cells_at HST.out.hS 5).trans rfl
          have p6 : wr.cell? ⟨S, 6, none⟩ = some (.slice none 0 0) := (cells_at HST.out.hS 6).trans rfl
          have p7 : wr.cell? ⟨S, 7, none⟩ = some (.slice none 0 0) := (cells_at HST.out.hS 7).trans rfl
          have p8 : wr.cell? ⟨Y, 1, none⟩ = some (.slice af lf cf) := (cells_at HST.out.hY 1).trans rfl
          have p9 : wr.cell? ⟨Y, 2, none⟩ = some (.slice ad ld cd) := (cells_at HST.out.hY 2).trans rfl
          refine wp_region_V (fun W => W.cell? ⟨S, 0, none⟩ = some (.int .i64 n) ∧ W.cell? ⟨S, 1, none⟩ = some (.slice af lf cf) ∧ W.cell? ⟨S, 2, none⟩ = some (.slice ad ld cd) ∧ W.cell? ⟨S, 3, none⟩ = some (.slice as' ls cs) ∧ W.cell? ⟨S, 4, none⟩ = some (.slice (some ⟨G, 0, none⟩) n gc) ∧ W.cell? ⟨S, 5, none⟩ = some (.slice none 0 0) ∧ W.cell? ⟨S, 6, none⟩ = some (.slice none 0 0) ∧ W.cell? ⟨S, 7, none⟩ = some (.slice none 0 0) ∧ W.cell? ⟨Y, 1, none⟩ = some (.slice af lf cf) ∧ W.cell? ⟨Y, 2, none⟩ = some (.slice ad ld cd)) 12 (by kernel_rfl) ?_
          refine wpAnyV_takeAt 0 (some 52) (v := ?_) rfl (by kernel_rfl) (by kernel_rfl) (by kernel_rfl) (by kernel_rfl) (by kernel_rfl) (fun _ _ _ h => h) (by exact ⟨p0, p1, p2, p3, p4, p5, p6, p7, p8, p9⟩) (fun o hop => ?_) ?_
          rotate_left
          · injection hop with hop
            subst hop
            refine ⟨rfl, fun W hW => ?_⟩
            obtain ⟨s0, s1, s2, s3, s4, s5, s6, s7, s8, s9⟩ := hW
            go_simp
            first
            | rfl
            | rw [if_neg (by omega)]
          try simp only [Act.put, List.setIfInBounds_toArray, List.set_cons_zero, List.set_cons_succ]
          refine wpAnyV_takeAt 1 (some 53) (v := ?_) rfl (by kernel_rfl) (by kernel_rfl) (by kernel_rfl) (by kernel_rfl) (by kernel_rfl) (fun _ _ _ h => h) (by exact ⟨p0, p1, p2, p3, p4, p5, p6, p7, p8, p9⟩) (fun o hop => ?_) ?_
          rotate_left
          · injection hop with hop
            subst hop
            refine ⟨rfl, fun W hW => ?_⟩
            obtain ⟨s0, s1, s2, s3, s4, s5, s6, s7, s8, s9⟩ := hW
            go_simp
            first
            | rfl
            | rw [if_neg (by omega)]
          try simp only [Act.put, List.setIfInBounds_toArray, List.set_cons_zero, List.set_cons_succ]
          refine wpAnyV_takeAt 2 (some 54) (v := ?_) rfl (by kernel_rfl) (by kernel_rfl) (by kernel_rfl) (by kernel_rfl) (by kernel_rfl) (fun _ _ _ h => h) (by exact ⟨p0, p1, p2, p3, p4, p5, p6, p7, p8, p9⟩) (fun o hop => ?_) ?_
          rotate_left
          · injection hop with hop
            subst hop
            refine ⟨rfl, fun W hW => ?_⟩
            obtain ⟨s0, s1, s2, s3, s4, s5, s6, s7, s8, s9⟩ := hW
            go_simp
            first
            | rfl
            | rw [if_neg (by omega)]
          try simp only [Act.put, List.setIfInBounds_toArray, List.set_cons_zero, List.set_cons_succ]
          refine wpAnyV_takeAt 4 (some 56) (v := ?_) rfl (by kernel_rfl) (by kernel_rfl) (by kernel_rfl) (by kernel_rfl) (by kernel_rfl) (fun _ _ _ h => h) (by exact ⟨p0, p1, p2, p3, p4, p5, p6, p7, p8, p9⟩) (fun o hop => ?_) ?_
          rotate_left
          · injection hop with hop
            subst hop
            refine ⟨rfl, fun W hW => ?_⟩
            obtain ⟨s0, s1, s2, s3, s4, s5, s6, s7, s8, s9⟩ := hW
            go_simp
            first
            | rfl
            | rw [if_neg (by omega)]
          try simp only [Act.put, List.setIfInBounds_toArray, List.set_cons_zero, List.set_cons_succ]
          refine wpAnyV_takeAt 5 (some 57) (v := ?_) rfl (by kernel_rfl) (by kernel_rfl) (by kernel_rfl) (by kernel_rfl) (by kernel_rfl) (fun _ _ _ h => h) (by exact ⟨p0, p1, p2, p3, p4, p5, p6, p7, p8, p9⟩) (fun o hop => ?_) ?_
          rotate_left
          · injection hop with hop
            subst hop
            refine ⟨rfl, fun W hW => ?_⟩
            obtain ⟨s0, s1, s2, s3, s4, s5, s6, s7, s8, s9⟩ := hW
            go_simp
            first
            | rfl
            | rw [if_neg (by omega)]
          try simp only [Act.put, List.setIfInBounds_toArray, List.set_cons_zero, List.set_cons_succ]
          refine wpAnyV_takeAt 7 (some 59) (v := ?_) rfl (by kernel_rfl) (by kernel_rfl) (by kernel_rfl) (by kernel_rfl) (by kernel_rfl) (fun _ _ _ h => h) (by exact ⟨p0, p1, p2, p3, p4, p5, p6, p7, p8, p9⟩) (fun o hop => ?_) ?_
          rotate_left
          · injection hop with hop
            subst hop
            refine ⟨rfl, fun W hW => ?_⟩
            obtain ⟨s0, s1, s2, s3, s4, s5, s6, s7, s8, s9⟩ := hW
            go_simp
            first
            | rfl
            | rw [if_neg (by omega)]
          try simp only [Act.put, List.setIfInBounds_toArray, List.set_cons_zero, List.set_cons_succ]
          refine wpAnyV_takeAt 8 (some 60) (v := ?_) rfl (by kernel_rfl) (by kernel_rfl) (by kernel_rfl) (by kernel_rfl) (by kernel_rfl) (fun _ _ _ h => h) (by exact ⟨p0, p1, p2, p3, p4, p5, p6, p7, p8, p9⟩) (fun o hop => ?_) ?_
          rotate_left
          · injection hop with hop
            subst hop
            refine ⟨rfl, fun W hW => ?_⟩
            obtain ⟨s0, s1, s2, s3, s4, s5, s6, s7, s8, s9⟩ := hW
            go_simp
            first
            | rfl
            | rw [if_neg (by omega)]
          try simp only [Act.put, List.setIfInBounds_toArray, List.set_cons_zero, List.set_cons_succ]
          refine wpAnyV_takeAt 9 (some 61) (v := ?_) rfl (by kernel_rfl) (by kernel_rfl) (by kernel_rfl) (by kernel_rfl) (by kernel_rfl) (fun _ _ _ h => h) (by exact ⟨p0, p1, p2, p3, p4, p5, p6, p7, p8, p9⟩) (fun o hop => ?_) ?_
          rotate_left
          · injection hop with hop
            subst hop
            refine ⟨rfl, fun W hW => ?_⟩
            obtain ⟨s0, s1, s2, s3, s4, s5, s6, s7, s8, s9⟩ := hW
            go_simp
            first
            | rfl
            | rw [if_neg (by omega)]
          try simp only [Act.put, List.setIfInBounds_toArray, List.set_cons_zero, List.set_cons_succ]
          refine wpAnyV_one (i := 3) (by kernel_rfl) rfl rfl (fun K' hK => ?_)
          go_simp
          go_at_call 47
          refine (HW1.out wr.drew ((Below.refl wr.heap.size wr).drew)).mono ?_
          rintro e w4 ⟨L, rfl, how1, hb1⟩
          have HB1 : Hid (Below wr.heap.size wr w4) := ((Below.refl wr.heap.size wr).drew).trans (hb1.mono ((Below.refl wr.heap.size wr).drew).size)
          have HS1 := hide' (HST.out.more HB1.out)
          have q0 : w4.cell? ⟨S, 0, none⟩ = some (.int .i64 n) := (cells_at HS1.out.hS 0).trans rfl
          have q1 : w4.cell? ⟨S, 1, none⟩ = some (.slice af lf cf) := (cells_at HS1.out.hS 1).trans rfl
          have q2 : w4.cell? ⟨S, 2, none⟩ = some (.slice ad ld cd) := (cells_at HS1.out.hS 2).trans rfl
          have q3 : w4.cell? ⟨S, 3, none⟩ = some (.slice as' ls cs) := (cells_at HS1.out.hS 3).trans rfl
          have q4 : w4.cell? ⟨S, 4, none⟩ = some (.slice (some ⟨G, 0, none⟩) n gc) := (cells_at HS1.out.hS 4).trans rfl
          have q5 : w4.cell? ⟨S, 5, none⟩ = some (.slice none 0 0) := (cells_at HS1.out.hS 5).trans rfl
          have q6 : w4.cell? ⟨S, 6, none⟩ = some (.slice none 0 0) := (cells_at HS1.out.hS 6).trans rfl
          have q7 : w4.cell? ⟨S, 7, none⟩ = some (.slice none 0 0) := (cells_at HS1.out.hS 7).trans rfl
          have q8 : w4.cell? ⟨Y, 1, none⟩ = some (.slice af lf cf) := (cells_at HS1.out.hY 1).trans rfl
          have q9 : w4.cell? ⟨Y, 2, none⟩ = some (.slice ad ld cd) := (cells_at HS1.out.hY 2).trans rfl
          refine hK.out _ _ (fun _ => by exact ⟨q0, q1, q2, q3, q4, q5, q6, q7, q8, q9⟩) ?_
          clear hK K' p0 p1 p2 p3 p4 p5 p6 p7 p8 p9
          refine wpAnyV_takeAt 11 (some 63) (v := ?_) rfl (by kernel_rfl) (by kernel_rfl) (by kernel_rfl) (by kernel_rfl) (by kernel_rfl) (fun _ _ _ h => h) (by exact ⟨q0, q1, q2, q3, q4, q5, q6, q7, q8, q9⟩) (fun o hop => ?_) ?_
          rotate_left
          · injection hop with hop
            subst hop
            refine ⟨rfl, fun W hW => ?_⟩
            obtain ⟨s0, s1, s2, s3, s4, s5, s6, s7, s8, s9⟩ := hW
            go_simp
            first
            | rfl
            | rw [if_neg (by omega)]
          try simp only [Act.put, List.setIfInBounds_toArray, List.set_cons_zero, List.set_cons_succ]
          refine wpAnyV_one (i := 6) (by kernel_rfl) rfl rfl (fun K' hK => ?_)
          go_simp
          go_at_call 47
          refine (HW2.out w4 HB1.out).mono ?_
          rintro e w5 ⟨E, rfl, how2, hb2⟩
          have HB2 : Hid (Below wr.heap.size wr w5) := HB1.out.trans (hb2.mono HB1.out.size)
          have HS2 := hide' (HST.out.more HB2.out)
          have r0 : w5.cell? ⟨S, 0, none⟩ = some (.int .i64 n) := (cells_at HS2.out.hS 0).trans rfl
          have r1 : w5.cell? ⟨S, 1, none⟩ = some (.slice af lf cf) := (cells_at HS2.out.hS 1).trans rfl
          have r2 : w5.cell? ⟨S, 2, none⟩ = some (.slice ad ld cd) := (cells_at HS2.out.hS 2).trans rfl
          have r3 : w5.cell? ⟨S, 3, none⟩ = some (.slice as' ls cs) := (cells_at HS2.out.hS 3).trans rfl
          have r4 : w5.cell? ⟨S, 4, none⟩ = some (.slice (some ⟨G, 0, none⟩) n gc) := (cells_at HS2.out.hS 4).trans rfl
          have r5 : w5.cell? ⟨S, 5, none⟩ = some (.slice none 0 0) := (cells_at HS2.out.hS 5).trans rfl
          have r6 : w5.cell? ⟨S, 6, none⟩ = some (.slice none 0 0) := (cells_at HS2.out.hS 6).trans rfl
          have r7 : w5.cell? ⟨S, 7, none⟩ = some (.slice none 0 0) := (cells_at HS2.out.hS 7).trans rfl
          have r8 : w5.cell? ⟨Y, 1, none⟩ = some (.slice af lf cf) := (cells_at HS2.out.hY 1).trans rfl
          have r9 : w5.cell? ⟨Y, 2, none⟩ = some (.slice ad ld cd) := (cells_at HS2.out.hY 2).trans rfl
          refine hK.out _ _ (fun _ => by exact ⟨r0, r1, r2, r3, r4, r5, r6, r7, r8, r9⟩) ?_
          clear hK K' q0 q1 q2 q3 q4 q5 q6 q7 q8 q9
          refine wpAnyV_one (i := 10) (by kernel_rfl) rfl rfl (fun K' hK => ?_)
          go_simp
          go_at_call 47
          refine (HW3.out w5 HB2.out).mono ?_
          rintro e w6 ⟨D, rfl, how3, hb3⟩
          have HB3 : Hid (Below wr.heap.size wr w6) := HB2.out.trans (hb3.mono HB2.out.size)
          have HS3 := hide' (HST.out.more HB3.out)
          have z0 : w6.cell? ⟨S, 0, none⟩ = some (.int .i64 n) := (cells_at HS3.out.hS 0).trans rfl
          have z1 : w6.cell? ⟨S, 1, none⟩ = some (.slice af lf cf) := (cells_at HS3.out.hS 1).trans rfl
          have z2 : w6.cell? ⟨S, 2, none⟩ = some (.slice ad ld cd) := (cells_at HS3.out.hS 2).trans rfl
          have z3 : w6.cell? ⟨S, 3, none⟩ = some (.slice as' ls cs) := (cells_at HS3.out.hS 3).trans rfl
          have z4 : w6.cell? ⟨S, 4, none⟩ = some (.slice (some ⟨G, 0, none⟩) n gc) := (cells_at HS3.out.hS 4).trans rfl
          have z5 : w6.cell? ⟨S, 5, none⟩ = some (.slice none 0 0) := (cells_at HS3.out.hS 5).trans rfl
          have z6 : w6.cell? ⟨S, 6, none⟩ = some (.slice none 0 0) := (cells_at HS3.out.hS 6).trans rfl
          have z7 : w6.cell? ⟨S, 7, none⟩ = some (.slice none 0 0) := (cells_at HS3.out.hS 7).trans rfl
          have z8 : w6.cell? ⟨Y, 1, none⟩ = some (.slice af lf cf) := (cells_at HS3.out.hY 1).trans rfl
          have z9 : w6.cell? ⟨Y, 2, none⟩ = some (.slice ad ld cd) := (cells_at HS3.out.hY 2).trans rfl
          refine hK.out _ _ (fun _ => by exact ⟨z0, z1, z2, z3, z4, z5, z6, z7, z8, z9⟩) ?_
          clear hK K' r0 r1 r2 r3 r4 r5 r6 r7 r8 r9
          have f5 : w6.frozen? ⟨S, 5, none⟩ = false := frozen_no HS3.out.hS _
          have f6 : w6.frozen? ⟨S, 6, none⟩ = false := frozen_no HS3.out.hS _
          have f7 : w6.frozen? ⟨S, 7, none⟩ = false := frozen_no HS3.out.hS _
          refine wpAnyV_one (i := 12) (by kernel_rfl) rfl rfl (fun K' hK => ?_)
          go_simp
          refine hK.out _ _ (fun h => absurd h (by decide)) ?_
          clear hK K'
          refine wpAnyV_one (i := 13) (by kernel_rfl) rfl rfl (fun K' hK => ?_)
          go_simp
          refine hK.out _ _ (fun h => absurd h (by decide)) ?_
          clear hK K'
          refine wpAnyV_one (i := 14) (by kernel_rfl) rfl rfl (fun K' hK => ?_)
          go_simp
          refine hK.out _ _ (fun h => absurd h (by decide)) ?_
          clear hK K'
          refine wpAnyV_one (i := 15) (by kernel_rfl) rfl rfl (fun K' hK => ?_)
          go_simp
          refine hK.out _ _ (fun h => absurd h (by decide)) ?_
          clear hK K'
          refine wpAnyV_one (i := 16) (by kernel_rfl) rfl rfl (fun K' hK => ?_)
          go_simp
          refine hK.out _ _ (fun h => absurd h (by decide)) ?_
          clear hK K'
          refine wpAnyV_done (by kernel_rfl) ?_ _
          have HF0 : Hid (ASt w (((w6.setCell ⟨S, 5, none⟩ (.slice (some ⟨L, 0, none⟩) n n)).setCell ⟨S, 6, none⟩ (.slice (some ⟨E, 0, none⟩) n n)).setCell ⟨S, 7, none⟩ (.slice (some ⟨D, 0, none⟩) n n)) Y A S #[.int .i64 n, .slice af lf cf, .slice ad ld cd, .slice as' ls cs] #[.int .i64 n, .slice af lf cf, .slice ad ld cd, .slice as' ls cs, .slice (some ⟨G, 0, none⟩) n gc, .slice (some ⟨L, 0, none⟩) n n, .slice (some ⟨E, 0, none⟩) n n, .slice (some ⟨D, 0, none⟩) n n]) := ((HS3.out.set (j := 5) (x := .slice (some ⟨L, 0, none⟩) n n)).set (j := 6) (x := .slice (some ⟨E, 0, none⟩) n n)).set (j := 7) (x := .slice (some ⟨D, 0, none⟩) n n)
          have hk0 : KeepE 50 w6 (((w6.setCell ⟨S, 5, none⟩ (.slice (some ⟨L, 0, none⟩) n n)).setCell ⟨S, 6, none⟩ (.slice (some ⟨E, 0, none⟩) n n)).setCell ⟨S, 7, none⟩ (.slice (some ⟨D, 0, none⟩) n n)) := ((keep_set HS3.out.hS 5 _).trans (keep_set (HS3.out.set (j := 5) (x := .slice (some ⟨L, 0, none⟩) n n)).hS 6 _)).trans (keep_set ((HS3.out.set (j := 5) (x := .slice (some ⟨L, 0, none⟩) n n)).set (j := 6) (x := .slice (some ⟨E, 0, none⟩) n n)).hS 7 _)
          have HW := HWX.out
          have hwr := HST.out.bel.size
          have HG7 : Hid ((((w6.setCell ⟨S, 5, none⟩ (.slice (some ⟨L, 0, none⟩) n n)).setCell ⟨S, 6, none⟩ (.slice (some ⟨E, 0, none⟩) n n)).setCell ⟨S, 7, none⟩ (.slice (some ⟨D, 0, none⟩) n n)).ownsRow w.heap.size 3 1 (.slice (some ⟨G, 0, none⟩) n gc) n (ints y.grp)) := own_keep (own_below HGR.out HB3.out (Nat.le_refl _)) hk0 (by decide)
          have HL7 : Hid ((((w6.setCell ⟨S, 5, none⟩ (.slice (some ⟨L, 0, none⟩) n n)).setCell ⟨S, 6, none⟩ (.slice (some ⟨E, 0, none⟩) n n)).setCell ⟨S, 7, none⟩ (.slice (some ⟨D, 0, none⟩) n n)).ownsRow w.heap.size 4 1 (.slice (some ⟨L, 0, none⟩) n n) n (y.live.map Value.bool)) := own_keep (own_below (own_below (own_base how1 hwr) hb2 (Nat.le_refl _)) hb3 (Nat.le_refl _)) hk0 (by decide)
          have HE7 : Hid ((((w6.setCell ⟨S, 5, none⟩ (.slice (some ⟨L, 0, none⟩) n n)).setCell ⟨S, 6, none⟩ (.slice (some ⟨E, 0, none⟩) n n)).setCell ⟨S, 7, none⟩ (.slice (some ⟨D, 0, none⟩) n n)).ownsRow w.heap.size 4 1 (.slice (some ⟨E, 0, none⟩) n n) n (y.earthed.map Value.bool)) := own_keep (own_below (own_base how2 (Nat.le_trans hwr HB1.out.size)) hb3 (Nat.le_refl _)) hk0 (by decide)
          have HD7 : Hid ((((w6.setCell ⟨S, 5, none⟩ (.slice (some ⟨L, 0, none⟩) n n)).setCell ⟨S, 6, none⟩ (.slice (some ⟨E, 0, none⟩) n n)).setCell ⟨S, 7, none⟩ (.slice (some ⟨D, 0, none⟩) n n)).ownsRow w.heap.size 4 1 (.slice (some ⟨D, 0, none⟩) n n) n (y.load.map Value.bool)) := own_keep (own_base how3 (Nat.le_trans hwr HB2.out.size)) hk0 (by decide)
          obtain ⟨w7, hw7⟩ : ∃ x, x = (((w6.setCell ⟨S, 5, none⟩ (.slice (some ⟨L, 0, none⟩) n n)).setCell ⟨S, 6, none⟩ (.slice (some ⟨E, 0, none⟩) n n)).setCell ⟨S, 7, none⟩ (.slice (some ⟨D, 0, none⟩) n n)) := ⟨_, rfl⟩
          rw [← hw7] at HF0 HG7 HL7 HE7 HD7 ⊢
          clear hw7 hk0 how1 how2 how3 hb1 hb2 hb3 f5 f6 f7 z0 z1 z2 z3 z4 z5 z6 z7 z8 z9 HS1 HS2 HS3 HB1 HB2 HB3 HGR HST HW1 HW2 HW3
          have HF7 := hide' HF0.out
          have s0 : w7.cell? ⟨S, 0, none⟩ = some (.int .i64 n) := (cells_at HF7.out.hS 0).trans rfl
          have a0 : w7.cell? ⟨A, 0, none⟩ = some (.int .i64 0) := (cells_at HF7.out.hA 0).trans rfl
          have b0 : w7.frozen? ⟨A, 0, none⟩ = false := frozen_no HF7.out.hA _
          have s1 : w7.cell? ⟨S, 1, none⟩ = some (.slice af lf cf) := (cells_at HF7.out.hS 1).trans rfl
          have a1 : w7.cell? ⟨A, 1, none⟩ = some (.slice none 0 0) := (cells_at HF7.out.hA 1).trans rfl
          have b1 : w7.frozen? ⟨A, 1, none⟩ = false := frozen_no HF7.out.hA _
          have s2 : w7.cell? ⟨S, 2, none⟩ = some (.slice ad ld cd) := (cells_at HF7.out.hS 2).trans rfl
          have a2 : w7.cell? ⟨A, 2, none⟩ = some (.slice none 0 0) := (cells_at HF7.out.hA 2).trans rfl
          have b2 : w7.frozen? ⟨A, 2, none⟩ = false := frozen_no HF7.out.hA _
          have s3 : w7.cell? ⟨S, 3, none⟩ = some (.slice as' ls cs) := (cells_at HF7.out.hS 3).trans rfl
          have a3 : w7.cell? ⟨A, 3, none⟩ = some (.slice none 0 0) := (cells_at HF7.out.hA 3).trans rfl
          have b3 : w7.frozen? ⟨A, 3, none⟩ = false := frozen_no HF7.out.hA _
          have s4 : w7.cell? ⟨S, 4, none⟩ = some (.slice (some ⟨G, 0, none⟩) n gc) := (cells_at HF7.out.hS 4).trans rfl
          have a4 : w7.cell? ⟨A, 4, none⟩ = some (.slice none 0 0) := (cells_at HF7.out.hA 4).trans rfl
          have b4 : w7.frozen? ⟨A, 4, none⟩ = false := frozen_no HF7.out.hA _
          have s5 : w7.cell? ⟨S, 5, none⟩ = some (.slice (some ⟨L, 0, none⟩) n n) := (cells_at HF7.out.hS 5).trans rfl
          have a5 : w7.cell? ⟨A, 5, none⟩ = some (.slice none 0 0) := (cells_at HF7.out.hA 5).trans rfl
          have b5 : w7.frozen? ⟨A, 5, none⟩ = false := frozen_no HF7.out.hA _
          have s6 : w7.cell? ⟨S, 6, none⟩ = some (.slice (some ⟨E, 0, none⟩) n n) := (cells_at HF7.out.hS 6).trans rfl
          have a6 : w7.cell? ⟨A, 6, none⟩ = some (.slice none 0 0) := (cells_at HF7.out.hA 6).trans rfl
          have b6 : w7.frozen? ⟨A, 6, none⟩ = false := frozen_no HF7.out.hA _
          have s7 : w7.cell? ⟨S, 7, none⟩ = some (.slice (some ⟨D, 0, none⟩) n n) := (cells_at HF7.out.hS 7).trans rfl
          have a7 : w7.cell? ⟨A, 7, none⟩ = some (.slice none 0 0) := (cells_at HF7.out.hA 7).trans rfl
          have b7 : w7.frozen? ⟨A, 7, none⟩ = false := frozen_no HF7.out.hA _
          have HAA : Hid (((((((((w7.setCell ⟨A, 0, none⟩ (.int .i64 n)).setCell ⟨A, 1, none⟩ (.slice af lf cf)).setCell ⟨A, 2, none⟩ (.slice ad ld cd)).setCell ⟨A, 3, none⟩ (.slice as' ls cs)).setCell ⟨A, 4, none⟩ (.slice (some ⟨G, 0, none⟩) n gc)).setCell ⟨A, 5, none⟩ (.slice (some ⟨L, 0, none⟩) n n)).setCell ⟨A, 6, none⟩ (.slice (some ⟨E, 0, none⟩) n n)).setCell ⟨A, 7, none⟩ (.slice (some ⟨D, 0, none⟩) n n)).heap[A]? = some (.cells #[.int .i64 n, .slice af lf cf, .slice ad ld cd, .slice as' ls cs, .slice (some ⟨G, 0, none⟩) n gc, .slice (some ⟨L, 0, none⟩) n n, .slice (some ⟨E, 0, none⟩) n n, .slice (some ⟨D, 0, none⟩) n n] 50 (0, 0))) := (set_any (set_any (set_any (set_any (set_any (set_any (set_any (set_any HF7.out.hA 0 _) 1 _) 2 _) 3 _) 4 _) 5 _) 6 _) 7 _).trans rfl
          have hs : ∀ q, q ≠ A → ((((((((w7.setCell ⟨A, 0, none⟩ (.int .i64 n)).setCell ⟨A, 1, none⟩ (.slice af lf cf)).setCell ⟨A, 2, none⟩ (.slice ad ld cd)).setCell ⟨A, 3, none⟩ (.slice as' ls cs)).setCell ⟨A, 4, none⟩ (.slice (some ⟨G, 0, none⟩) n gc)).setCell ⟨A, 5, none⟩ (.slice (some ⟨L, 0, none⟩) n n)).setCell ⟨A, 6, none⟩ (.slice (some ⟨E, 0, none⟩) n n)).setCell ⟨A, 7, none⟩ (.slice (some ⟨D, 0, none⟩) n n)).heap[q]? = w7.heap[q]? := fun q hj => by
            rw [Below.heap_setCell _ _ _ q hj, Below.heap_setCell _ _ _ q hj, Below.heap_setCell _ _ _ q hj, Below.heap_setCell _ _ _ q hj, Below.heap_setCell _ _ _ q hj, Below.heap_setCell _ _ _ q hj, Below.heap_setCell _ _ _ q hj, Below.heap_setCell _ _ _ q hj]
          have HBF : Hid (Below w.heap.size w ((((((((w7.setCell ⟨A, 0, none⟩ (.int .i64 n)).setCell ⟨A, 1, none⟩ (.slice af lf cf)).setCell ⟨A, 2, none⟩ (.slice ad ld cd)).setCell ⟨A, 3, none⟩ (.slice as' ls cs)).setCell ⟨A, 4, none⟩ (.slice (some ⟨G, 0, none⟩) n gc)).setCell ⟨A, 5, none⟩ (.slice (some ⟨L, 0, none⟩) n n)).setCell ⟨A, 6, none⟩ (.slice (some ⟨E, 0, none⟩) n n)).setCell ⟨A, 7, none⟩ (.slice (some ⟨D, 0, none⟩) n n))) := ((((((((HF7.out.bel.setCell (p := ⟨A, 0, none⟩) HF7.out.sA _).setCell (p := ⟨A, 1, none⟩) HF7.out.sA _).setCell (p := ⟨A, 2, none⟩) HF7.out.sA _).setCell (p := ⟨A, 3, none⟩) HF7.out.sA _).setCell (p := ⟨A, 4, none⟩) HF7.out.sA _).setCell (p := ⟨A, 5, none⟩) HF7.out.sA _).setCell (p := ⟨A, 6, none⟩) HF7.out.sA _).setCell (p := ⟨A, 7, none⟩) HF7.out.sA _)
          have hke : KeepE 50 w7 ((((((((w7.setCell ⟨A, 0, none⟩ (.int .i64 n)).setCell ⟨A, 1, none⟩ (.slice af lf cf)).setCell ⟨A, 2, none⟩ (.slice ad ld cd)).setCell ⟨A, 3, none⟩ (.slice as' ls cs)).setCell ⟨A, 4, none⟩ (.slice (some ⟨G, 0, none⟩) n gc)).setCell ⟨A, 5, none⟩ (.slice (some ⟨L, 0, none⟩) n n)).setCell ⟨A, 6, none⟩ (.slice (some ⟨E, 0, none⟩) n n)).setCell ⟨A, 7, none⟩ (.slice (some ⟨D, 0, none⟩) n n)) := fun q cur e1 fz hj he => hs q (fun e => by subst e; rw [HF7.out.hA] at hj; cases hj; exact he rfl)
          have HGF := hide' (own_keep HG7.out hke (by decide))
          have HLF2 := hide' (own_keep HL7.out hke (by decide))
          have HEF := hide' (own_keep HE7.out hke (by decide))
          have HDF := hide' (own_keep HD7.out hke (by decide))
          clear hs hke HG7 HL7 HE7 HD7 HF0 HF7
          go_wp2
          refine bodyPost_ret (results_cell_row rfl _ _ A 50 _ (0, 0) _ rfl HAA.out Try.underlying50 rfl (by kernel_rfl)) rfl ?_
          exact ⟨G, gc, L, E, D, rfl, HGF.out, HLF2.out, HEF.out, HDF.out, HBF.out⟩
end Go.Proofs.Ytcnoipcpifackah
