/- SwingRuns. -/
import Derived.Test.YtligmokepafnbajH8
namespace Go.Proofs.Ytligmokepafnbaj
open Go.RowKit Go.Shelf

/-- What a run has answered, as it lies there. -/
def ResW (f damp mass dt : Nat) (md dr : List Nat) (l : List (Nat × Nat)) (g : List Bool) (W : World) (r : Nat) (gv tv : Value) (code : Int) : Prop :=
  (¬ RunMay md dr l g ∧ r = 0 ∧ gv = .slice none 0 0 ∧ tv = .slice none 0 0 ∧ code = 2) ∨
    (RunMay md dr l g ∧ code = 0 ∧ nm r = (runS (nm damp) (nm mass) (nm dt) (atWorkS l g) (nm f) (md.zip dr) md.length).2 ∧ W.ownsRow 0 4 1 gv l.length (((runS (nm damp) (nm mass) (nm dt) (atWorkS l g) (nm f) (md.zip dr) md.length).1.map StM.gone).map Value.bool) ∧
      ∃ tl : List Nat, W.ownsRow 0 22 1 tv md.length (fls tl) ∧ tl.map nm = toldS (nm damp) (nm mass) (nm dt) (atWorkS l g) (nm f) (md.zip dr) md.length)
theorem RunO.res {f damp mass dt : Nat} {md dr : List Nat} {l : List (Nat × Nat)} {g : List Bool} {w w' : World} {e : Ending} (h : RunO f damp mass dt md dr l g w e w') :
    ∃ (r : Nat) (ga : Option Addr) (gn gc : Nat) (ta : Option Addr) (tn tc : Nat) (code : Int), e = .returned (.tuple #[.agg #[.float .f64 r, .slice ga gn gc], .slice ta tn tc, .int .i64 code]) ∧ ResW f damp mass dt md dr l g w' r (.slice ga gn gc) (.slice ta tn tc) code ∧ Below w.heap.size w w' := by
  obtain ⟨h, hb⟩ := h
  rcases h with ⟨h1, rfl⟩ | ⟨h1, r, vg, vt, tl, rfl, h2, h3, h4, h5⟩
  · exact ⟨0, none, 0, 0, none, 0, 0, 2, rfl, .inl ⟨h1, rfl, rfl, rfl, rfl⟩, hb⟩
  · obtain ⟨ga, gc, rfl⟩ := own_slice h3
    obtain ⟨ta, tc, rfl⟩ := own_slice h4
    exact ⟨r, ga, _, gc, ta, _, tc, 0, rfl, .inr ⟨h1, rfl, h2, own_mono h3 (Nat.zero_le _), tl, own_mono h4 (Nat.zero_le _), h5⟩, hb⟩
theorem ResW.keep {f damp mass dt : Nat} {md dr : List Nat} {l : List (Nat × Nat)} {g : List Bool} {W W' : World} {r : Nat} {gv tv : Value} {code : Int} (h : ResW f damp mass dt md dr l g W r gv tv code) (hk : KeepE 25 W W') : ResW f damp mass dt md dr l g W' r gv tv code := by
  rcases h with h | ⟨h1, h2, h3, h4, tl, h5, h6⟩
  · exact .inl h
  · exact .inr ⟨h1, h2, h3, own_keep h4 hk (by decide), tl, own_keep h5 hk (by decide), h6⟩
theorem ResW.same {f damp mass dt : Nat} {md dr : List Nat} {l : List (Nat × Nat)} {g : List Bool} {W : World} {r r' : Nat} {gv tv gv' tv' : Value} {code code' : Int} (h : ResW f damp mass dt md dr l g W r gv tv code) (h' : ResW f damp mass dt md dr l g W r' gv' tv' code') :
    code = code' ∧ nm r = nm r' ∧ (∃ (n : Nat) (la lb : List Nat), RowAt W tv n 1 (fls la) ∧ RowAt W tv' n 1 (fls lb) ∧ la.map nm = lb.map nm ∧ n ≤ 1000) ∧ ∃ (n : Nat) (gl : List Bool), RowAt W gv n 1 (gl.map Value.bool) ∧ RowAt W gv' n 1 (gl.map Value.bool) ∧ n ≤ 1000 := by
  rcases h with ⟨h1, rfl, rfl, rfl, rfl⟩ | ⟨h1, rfl, h3, h4, tl, h5, h6⟩
  · rcases h' with ⟨_, rfl, rfl, rfl, rfl⟩ | ⟨h2, _⟩
    · exact ⟨rfl, rfl, ⟨0, [], [], rowAt_of_own (World.ownsRow_nil W 0 22 1), rowAt_of_own (World.ownsRow_nil W 0 22 1), rfl, by decide⟩, ⟨0, [], rowAt_of_own (World.ownsRow_nil W 0 4 1), rowAt_of_own (World.ownsRow_nil W 0 4 1), by decide⟩⟩
    · exact absurd h2 h1
  · rcases h' with ⟨h2, _⟩ | ⟨_, rfl, g3, g4, tl', g5, g6⟩
    · exact absurd h1 h2
    · exact ⟨rfl, h3.trans g3.symm, ⟨md.length, tl, tl', rowAt_of_own h5, rowAt_of_own g5, h6.trans g6.symm, by have := h1.2.1; omega⟩, ⟨l.length, _, rowAt_of_own h4, rowAt_of_own g4, by have := h1.2.2.1; omega⟩⟩

/-- The box of what came in. -/
structure YB (w W : World) (Y : Nat) (cs : Array Value) : Prop where
  hY : W.heap[Y]? = some (.cells cs 25 (0, 0))
  bel : Below w.heap.size w W
theorem YB.more {w W W' : World} {Y : Nat} {cs : Array Value} (h : YB w W Y cs) (hb : Below W.heap.size W W') : YB w W' Y cs := ⟨(hb.block Y (lt_heap h.hY)).trans h.hY, h.bel.trans (hb.mono h.bel.size)⟩
theorem YB.c {w W : World} {Y : Nat} {x y : Value} (h : YB w W Y #[x, y]) : W.cell? ⟨Y, 0, none⟩ = some x ∧ W.cell? ⟨Y, 1, none⟩ = some y := ⟨(cells_at h.hY 0).trans rfl, (cells_at h.hY 1).trans rfl⟩
theorem blk_more {W W' : World} {C : Nat} {o : Obj} (h : W.heap[C]? = some o) (hb : Below W.heap.size W W') : W'.heap[C]? = some o := (hb.block C (lt_heap h)).trans h

attribute [local go_sem] run_fadd run_fsub run_fmul run_fquo run_store_float

theorem st_one (l : List (Nat × Nat)) : ∀ u ∈ l.flatMap sgc, u.oneCell' = true := fun u hu => by
  obtain ⟨c, _, hc⟩ := List.mem_flatMap.1 hu
  unfold sgc at hc
  simp only [List.mem_cons, List.not_mem_nil, or_false] at hc
  rcases hc with rfl | rfl <;> rfl
theorem Try.info46 : (Try.prog.info? 46).map (fun i => (i.zero, i.size, i.bytes)) = some (some (.agg #[.float .f64 0, .float .f64 0]), 2, 16) := by kernel_rfl

set_option maxRecDepth 100000 in
set_option maxHeartbeats 4000000 in
theorem SwingRuns_any (f damp mass dt : Nat) (md dr : List Nat) (l : List (Nat × Nat)) (g : List Bool) (vm vd vl vg : Value) (w : World)
    (hm : RowAt w vm md.length 1 (fls md)) (hd : RowAt w vd dr.length 1 (fls dr)) (hl : RowAt w vl l.length 2 (l.flatMap sgc)) (hg : RowAt w vg g.length 1 (g.map Value.bool)) (nm' : md.length ≤ 2000000) (nd : dr.length ≤ 2000000) (nl : l.length ≤ 2000000) (ng : g.length ≤ 2000000) :
    Calls Try.prog 3 #[.agg #[.float .f64 f, vg], .float .f64 damp, .float .f64 mass, .float .f64 dt, vm, vd, vl] w fun e w' => e = .returned (.bool true) ∧ Below w.heap.size w w' := by
  obtain ⟨i46, hi46, h460, h461, h462⟩ := info_parts Try.info46
  have HM := hide' hm
  have HD := hide' hd
  have HL := hide' hl
  have HGN := hide' hg
  obtain ⟨am, cm, rfl⟩ := rowAt_slice hm
  obtain ⟨ad, cd, rfl⟩ := rowAt_slice hd
  obtain ⟨al, cl, rfl⟩ := rowAt_slice hl
  obtain ⟨ag, cg, rfl⟩ := rowAt_slice hg
  clear hm hd hl hg
  go_enter Try.func3, Try.ntmps3
  go_upto_region 1 with fail
  have HY0 : Hid (YB w (w.alloc (.cells #[.float .f64 f, .slice ag g.length cg] 25)) w.heap.size #[.float .f64 f, .slice ag g.length cg]) := ⟨alloc_new _ _, below_al w _⟩
  obtain ⟨Y, hY⟩ : ∃ S, S = w.heap.size := ⟨_, rfl⟩
  obtain ⟨w1, hw1⟩ : ∃ x, x = w.alloc (.cells #[.float .f64 f, .slice ag g.length cg] 25) := ⟨_, rfl⟩
  rw [← hw1] at HY0 ⊢
  have HYB : Hid (YB w w1 Y #[.float .f64 f, .slice ag g.length cg]) := by rw [hY]; exact HY0
  rw [show (Value.pointer (some { block := w.heap.size, off := 0 })) = Value.pointer (some { block := Y, off := 0 }) by rw [hY]]
  clear hY hw1 HY0
  go_cut [15] from 22 to 27 (fun p wc => ∃ (C : Nat) (ga : Option Addr) (gc : Nat), p = .pointer (some ⟨C, 0, none⟩) ∧ Hid (YB w wc Y #[.float .f64 f, .slice ag g.length cg] ∧ wc.heap[C]? = some (.cells #[.float .f64 f, .slice ga g.length gc] 25 (0, 0)) ∧ wc.ownsRow 0 4 1 (.slice ga g.length gc) g.length (g.map Value.bool)))
  case first =>
    have y0 := (HYB.out.more (Below.refl _ w1).drew).c
    go_wp2_with fail
    refine wp_region_tail (fun W => W.cell? ⟨Y, 0, none⟩ = some (.float .f64 f) ∧ W.cell? ⟨Y, 1, none⟩ = some (.slice ag g.length cg)) 7 (by kernel_rfl) ?_
    refine wpAnyD_takeAt 0 (some 22) (v := ?_) rfl (by kernel_rfl) (by kernel_rfl) (by kernel_rfl) (by kernel_rfl) (by kernel_rfl) (fun _ _ _ h => h) (by exact y0) (fun o hop => ?_) ?_
    rotate_left
    · injection hop with hop
      subst hop
      refine ⟨rfl, fun W hW => ?_⟩
      obtain ⟨s0, s1⟩ := hW
      go_simp
      try rfl
    try simp only [Act.put, List.setIfInBounds_toArray, List.set_cons_zero, List.set_cons_succ]
    refine wpAnyD_takeAt 1 (some 23) (v := ?_) rfl (by kernel_rfl) (by kernel_rfl) (by kernel_rfl) (by kernel_rfl) (by kernel_rfl) (fun _ _ _ h => h) (by exact y0) (fun o hop => ?_) ?_
    rotate_left
    · injection hop with hop
      subst hop
      refine ⟨rfl, fun W hW => ?_⟩
      obtain ⟨s0, s1⟩ := hW
      go_simp
      try rfl
    try simp only [Act.put, List.setIfInBounds_toArray, List.set_cons_zero, List.set_cons_succ]
    refine wpAnyD_takeAt 2 (some 24) (v := ?_) rfl (by kernel_rfl) (by kernel_rfl) (by kernel_rfl) (by kernel_rfl) (by kernel_rfl) (fun _ _ _ h => h) (by exact y0) (fun o hop => ?_) ?_
    rotate_left
    · injection hop with hop
      subst hop
      refine ⟨rfl, fun W hW => ?_⟩
      obtain ⟨s0, s1⟩ := hW
      go_simp
      try rfl
    try simp only [Act.put, List.setIfInBounds_toArray, List.set_cons_zero, List.set_cons_succ]
    refine wpAnyD_takeAt 3 (some 25) (v := ?_) rfl (by kernel_rfl) (by kernel_rfl) (by kernel_rfl) (by kernel_rfl) (by kernel_rfl) (fun _ _ _ h => h) (by exact y0) (fun o hop => ?_) ?_
    rotate_left
    · injection hop with hop
      subst hop
      refine ⟨rfl, fun W hW => ?_⟩
      obtain ⟨s0, s1⟩ := hW
      go_simp
      try rfl
    try simp only [Act.put, List.setIfInBounds_toArray, List.set_cons_zero, List.set_cons_succ]
    have HYS : Hid (w.heap.size ≤ w1.heap.size ∧ Y < w1.heap.size) := ⟨HYB.out.bel.size, lt_heap HYB.out.hY⟩
    refine wpAnyT_letter (fun W => YB w W Y #[.float .f64 f, .slice ag g.length cg] ∧ w1.heap.size ≤ W.heap.size) ⟨HYB.out.more (Below.refl _ w1).drew, Nat.le_refl _⟩ ?_
    clear y0 HYB
    rintro x0 ⟨hyb, hsz⟩
    refine wpAnyT_two (i := 4) (j := 6) (by kernel_rfl) rfl rfl rfl rfl (fun K' hK => ?_) (fun K' hK => ?_)
    · go_simp
      go_at_call 7
      refine (sides_any g (.slice ag g.length cg) x0 (HGN.out.below hyb.bel (Nat.le_refl _)) ng).mono ?_
      rintro e x1 ⟨v2, rfl, ho2, hb2⟩
      obtain ⟨ga, gc, ex2⟩ := own_slice ho2
      subst ex2
      replace ho2 := own_mono ho2 (Nat.zero_le _)
      replace hyb := hyb.more hb2
      replace hsz := Nat.le_trans hsz hb2.size
      clear hb2
      refine hK.out _ _ (fun _ => by exact hyb.c) ?_
      clear hK K'
      refine wpAnyD_takeAt 5 (some 27) (v := ?_) rfl (by kernel_rfl) (by kernel_rfl) (by kernel_rfl) (by kernel_rfl) (by kernel_rfl) (fun _ _ _ h => h) (by exact hyb.c) (fun o hop => ?_) ?_
      rotate_left
      · injection hop with hop
        subst hop
        refine ⟨rfl, fun W hW => ?_⟩
        obtain ⟨s0, s1⟩ := hW
        go_simp
        try rfl
      try simp only [Act.put, List.setIfInBounds_toArray, List.set_cons_zero, List.set_cons_succ]
      refine wpAnyT_one (i := 6) (by kernel_rfl) rfl rfl (fun K' hK => ?_)
      go_simp
      refine hK.out _ _ (fun _ => by exact (hyb.more (below_al _ _)).c) ?_
      clear hK K'
      obtain ⟨C, hC⟩ : ∃ x, x = x1.heap.size := ⟨_, rfl⟩
      rw [← hC]
      refine wpAnyT_letter (fun W => YB w W Y #[.float .f64 f, .slice ag g.length cg] ∧ W.heap[C]? = some (.cells zero2 25 (0, 0)) ∧ W.ownsRow 0 4 1 (.slice ga g.length gc) g.length (g.map Value.bool) ∧ w1.heap.size ≤ C) ⟨hyb.more (below_al _ _), (by rw [hC]; exact alloc_new _ _), own_below ho2 (below_al _ _) (Nat.le_refl _), (by rw [hC]; exact hsz)⟩ ?_
      clear hyb ho2 hsz hC
      rintro x2 ⟨hyb, hzc, ho2, hsz⟩
      have hsc : w.heap.size ≤ C := by have := HYS.out; omega
      have hnc : Y ≠ C := by have := HYS.out; omega
      clear hsz
      have z0 : x2.cell? ⟨C, 0, none⟩ = some (.float .f64 0) := (cells_at hzc 0).trans rfl
      have z1 : x2.cell? ⟨C, 1, none⟩ = some (.slice none 0 0) := (cells_at hzc 1).trans rfl
      have t0 := frozen_no hzc 0
      have t1 := frozen_no hzc 1
      refine wpAnyT_one (i := 7) (by kernel_rfl) rfl rfl (fun K' hK => ?_)
      go_simp
      refine hK.out _ _ (fun h => absurd rfl h) ?_
      clear hK K'
      refine wpAnyT_done (by kernel_rfl) ?_ _
      have HFIN : Hid (YB w ((x2.setCell ⟨C, 0, none⟩ (.float .f64 f)).setCell ⟨C, 1, none⟩ (.slice ga g.length gc)) Y #[.float .f64 f, .slice ag g.length cg] ∧ ((x2.setCell ⟨C, 0, none⟩ (.float .f64 f)).setCell ⟨C, 1, none⟩ (.slice ga g.length gc)).heap[C]? = some (.cells #[.float .f64 f, .slice ga g.length gc] 25 (0, 0)) ∧ ((x2.setCell ⟨C, 0, none⟩ (.float .f64 f)).setCell ⟨C, 1, none⟩ (.slice ga g.length gc)).ownsRow 0 4 1 (.slice ga g.length gc) g.length (g.map Value.bool)) := by
        refine ⟨⟨?_, (hyb.bel.setCell (p := ⟨C, 0, none⟩) hsc _).setCell (p := ⟨C, 1, none⟩) hsc _⟩, (set_any (set_any hzc 0 _) 1 _).trans (congrArg (fun c => some (Obj.cells c 25 (0, 0))) (set2 _ _ _ _)), own_keep ho2 ((keep_set hzc 0 _).trans (keep_set (set_any hzc 0 _) 1 _)) (by decide)⟩
        rw [Below.heap_setCell _ _ _ Y hnc, Below.heap_setCell _ _ _ Y hnc]
        exact hyb.hY
      clear z0 z1 t0 t1 hyb hzc ho2 hsc hnc
      go_wp2_with fail
      go_meet
      case rel => exact ⟨C, ga, gc, rfl, HFIN⟩
    · go_simp
      refine hK.out _ _ (fun _ => by exact (hyb.more (below_al _ _)).c) ?_
      clear hK K'
      obtain ⟨C, hC⟩ : ∃ x, x = x0.heap.size := ⟨_, rfl⟩
      rw [← hC]
      refine wpAnyT_letter (fun W => YB w W Y #[.float .f64 f, .slice ag g.length cg] ∧ W.heap[C]? = some (.cells zero2 25 (0, 0)) ∧ w1.heap.size ≤ C) ⟨hyb.more (below_al _ _), (by rw [hC]; exact alloc_new _ _), (by rw [hC]; exact hsz)⟩ ?_
      clear hyb hsz hC
      rintro x3 ⟨hyb, hzc, hsz⟩
      refine wpAnyT_one (i := 4) (by kernel_rfl) rfl rfl (fun K' hK => ?_)
      go_simp
      go_at_call 7
      refine (sides_any g (.slice ag g.length cg) x3 (HGN.out.below hyb.bel (Nat.le_refl _)) ng).mono ?_
      rintro e x4 ⟨v2, rfl, ho2, hb2⟩
      obtain ⟨ga, gc, ex2⟩ := own_slice ho2
      subst ex2
      replace ho2 := own_mono ho2 (Nat.zero_le _)
      replace hyb := hyb.more hb2
      replace hzc := blk_more hzc hb2
      clear hb2
      refine hK.out _ _ (fun _ => by exact hyb.c) ?_
      clear hK K'
      refine wpAnyD_takeAt 5 (some 27) (v := ?_) rfl (by kernel_rfl) (by kernel_rfl) (by kernel_rfl) (by kernel_rfl) (by kernel_rfl) (fun _ _ _ h => h) (by exact hyb.c) (fun o hop => ?_) ?_
      rotate_left
      · injection hop with hop
        subst hop
        refine ⟨rfl, fun W hW => ?_⟩
        obtain ⟨s0, s1⟩ := hW
        go_simp
        try rfl
      try simp only [Act.put, List.setIfInBounds_toArray, List.set_cons_zero, List.set_cons_succ]
      have hsc : w.heap.size ≤ C := by have := HYS.out; omega
      have hnc : Y ≠ C := by have := HYS.out; omega
      clear hsz
      have z0 : x4.cell? ⟨C, 0, none⟩ = some (.float .f64 0) := (cells_at hzc 0).trans rfl
      have z1 : x4.cell? ⟨C, 1, none⟩ = some (.slice none 0 0) := (cells_at hzc 1).trans rfl
      have t0 := frozen_no hzc 0
      have t1 := frozen_no hzc 1
      refine wpAnyT_one (i := 7) (by kernel_rfl) rfl rfl (fun K' hK => ?_)
      go_simp
      refine hK.out _ _ (fun h => absurd rfl h) ?_
      clear hK K'
      refine wpAnyT_done (by kernel_rfl) ?_ _
      have HFIN : Hid (YB w ((x4.setCell ⟨C, 0, none⟩ (.float .f64 f)).setCell ⟨C, 1, none⟩ (.slice ga g.length gc)) Y #[.float .f64 f, .slice ag g.length cg] ∧ ((x4.setCell ⟨C, 0, none⟩ (.float .f64 f)).setCell ⟨C, 1, none⟩ (.slice ga g.length gc)).heap[C]? = some (.cells #[.float .f64 f, .slice ga g.length gc] 25 (0, 0)) ∧ ((x4.setCell ⟨C, 0, none⟩ (.float .f64 f)).setCell ⟨C, 1, none⟩ (.slice ga g.length gc)).ownsRow 0 4 1 (.slice ga g.length gc) g.length (g.map Value.bool)) := by
        refine ⟨⟨?_, (hyb.bel.setCell (p := ⟨C, 0, none⟩) hsc _).setCell (p := ⟨C, 1, none⟩) hsc _⟩, (set_any (set_any hzc 0 _) 1 _).trans (congrArg (fun c => some (Obj.cells c 25 (0, 0))) (set2 _ _ _ _)), own_keep ho2 ((keep_set hzc 0 _).trans (keep_set (set_any hzc 0 _) 1 _)) (by decide)⟩
        rw [Below.heap_setCell _ _ _ Y hnc, Below.heap_setCell _ _ _ Y hnc]
        exact hyb.hY
      clear z0 z1 t0 t1 hyb hzc ho2 hsc hnc
      go_wp2_with fail
      go_meet
      case rel => exact ⟨C, ga, gc, rfl, HFIN⟩
  case rest =>
    obtain ⟨C, ga, gc, rfl, HC⟩ := hcut
    clear HYB
    go_upto_region 2 with fail
    go_cut [16, 17, 18] from 28 to 42 (fun p x e wd => ∃ (D r : Nat) (ha : Option Addr) (hn hc : Nat) (ta : Option Addr) (tn tc : Nat) (code : Int), p = .pointer (some ⟨D, 0, none⟩) ∧ x = .slice ta tn tc ∧ e = .int .i64 code ∧ Hid (YB w wd Y #[.float .f64 f, .slice ag g.length cg] ∧ wd.heap[D]? = some (.cells #[.float .f64 r, .slice ha hn hc] 25 (0, 0)) ∧ ResW f damp mass dt md dr l g wd r (.slice ha hn hc) (.slice ta tn tc) code))
    case first =>
      obtain ⟨hyb0, hc1, hg1⟩ := HC.out
      have d0 : wc.drew.cell? ⟨C, 0, none⟩ = some (.float .f64 f) := (cells_at hc1 0).trans rfl
      have d1 : wc.drew.cell? ⟨C, 1, none⟩ = some (.slice ga g.length gc) := (cells_at hc1 1).trans rfl
      have HYS : Hid (w.heap.size ≤ wc.heap.size ∧ Y < wc.heap.size ∧ C < wc.heap.size) := ⟨hyb0.bel.size, lt_heap hyb0.hY, lt_heap hc1⟩
      clear hyb0 hc1 hg1
      go_wp2_with fail
      refine wp_region_tail (fun W => W.cell? ⟨C, 0, none⟩ = some (.float .f64 f) ∧ W.cell? ⟨C, 1, none⟩ = some (.slice ga g.length gc)) 18 (by kernel_rfl) ?_
      refine wpAnyD_takeAt 0 (some 29) (v := ?_) rfl (by kernel_rfl) (by kernel_rfl) (by kernel_rfl) (by kernel_rfl) (by kernel_rfl) (fun _ _ _ h => h) (by exact ⟨d0, d1⟩) (fun o hop => ?_) ?_
      rotate_left
      · injection hop with hop
        subst hop
        refine ⟨rfl, fun W hW => ?_⟩
        obtain ⟨s0, s1⟩ := hW
        go_simp
        try rfl
      try simp only [Act.put, List.setIfInBounds_toArray, List.set_cons_zero, List.set_cons_succ]
      refine wpAnyD_takeAt 1 (some 30) (v := ?_) rfl (by kernel_rfl) (by kernel_rfl) (by kernel_rfl) (by kernel_rfl) (by kernel_rfl) (fun _ _ _ h => h) (by exact ⟨d0, d1⟩) (fun o hop => ?_) ?_
      rotate_left
      · injection hop with hop
        subst hop
        refine ⟨rfl, fun W hW => ?_⟩
        obtain ⟨s0, s1⟩ := hW
        go_simp
        try rfl
      try simp only [Act.put, List.setIfInBounds_toArray, List.set_cons_zero, List.set_cons_succ]
      refine wpAnyD_takeAt 2 (some 31) (v := ?_) rfl (by kernel_rfl) (by kernel_rfl) (by kernel_rfl) (by kernel_rfl) (by kernel_rfl) (fun _ _ _ h => h) (by exact ⟨d0, d1⟩) (fun o hop => ?_) ?_
      rotate_left
      · injection hop with hop
        subst hop
        refine ⟨rfl, fun W hW => ?_⟩
        obtain ⟨s0, s1⟩ := hW
        go_simp
        try rfl
      try simp only [Act.put, List.setIfInBounds_toArray, List.set_cons_zero, List.set_cons_succ]
      refine wpAnyD_takeAt 3 (some 32) (v := ?_) rfl (by kernel_rfl) (by kernel_rfl) (by kernel_rfl) (by kernel_rfl) (by kernel_rfl) (fun _ _ _ h => h) (by exact ⟨d0, d1⟩) (fun o hop => ?_) ?_
      rotate_left
      · injection hop with hop
        subst hop
        refine ⟨rfl, fun W hW => ?_⟩
        obtain ⟨s0, s1⟩ := hW
        go_simp
        try rfl
      try simp only [Act.put, List.setIfInBounds_toArray, List.set_cons_zero, List.set_cons_succ]
      refine wpAnyD_takeAt 4 (some 33) (v := ?_) rfl (by kernel_rfl) (by kernel_rfl) (by kernel_rfl) (by kernel_rfl) (by kernel_rfl) (fun _ _ _ h => h) (by exact ⟨d0, d1⟩) (fun o hop => ?_) ?_
      rotate_left
      · injection hop with hop
        subst hop
        refine ⟨rfl, fun W hW => ?_⟩
        obtain ⟨s0, s1⟩ := hW
        go_simp
        try rfl
      try simp only [Act.put, List.setIfInBounds_toArray, List.set_cons_zero, List.set_cons_succ]
      refine wpAnyD_takeAt 6 (some 35) (v := ?_) rfl (by kernel_rfl) (by kernel_rfl) (by kernel_rfl) (by kernel_rfl) (by kernel_rfl) (fun _ _ _ h => h) (by exact ⟨d0, d1⟩) (fun o hop => ?_) ?_
      rotate_left
      · injection hop with hop
        subst hop
        refine ⟨rfl, fun W hW => ?_⟩
        obtain ⟨s0, s1⟩ := hW
        go_simp
        try rfl
      try simp only [Act.put, List.setIfInBounds_toArray, List.set_cons_zero, List.set_cons_succ]
      refine wpAnyD_takeAt 8 (some 37) (v := ?_) rfl (by kernel_rfl) (by kernel_rfl) (by kernel_rfl) (by kernel_rfl) (by kernel_rfl) (fun _ _ _ h => h) (by exact ⟨d0, d1⟩) (fun o hop => ?_) ?_
      rotate_left
      · injection hop with hop
        subst hop
        refine ⟨rfl, fun W hW => ?_⟩
        obtain ⟨s0, s1⟩ := hW
        go_simp
        try rfl
      try simp only [Act.put, List.setIfInBounds_toArray, List.set_cons_zero, List.set_cons_succ]
      refine wpAnyT_letter (fun W => YB w W Y #[.float .f64 f, .slice ag g.length cg] ∧ W.heap[C]? = some (.cells #[.float .f64 f, .slice ga g.length gc] 25 (0, 0)) ∧ W.ownsRow 0 4 1 (.slice ga g.length gc) g.length (g.map Value.bool) ∧ wc.heap.size ≤ W.heap.size) ⟨HC.out.1.more (Below.refl _ wc).drew, HC.out.2.1, own_below HC.out.2.2 (Below.refl _ wc).drew (Nat.le_refl _), Nat.le_refl _⟩ ?_
      clear d0 d1 HC
      rintro y0 ⟨hyb, hc0, hg0, hsz⟩
      refine wpAnyT_two (i := 5) (j := 15) (by kernel_rfl) rfl rfl rfl rfl (fun K' hK => ?_) (fun K' hK => ?_)
      · go_simp
        go_at_call 9
        refine (floats_any md (.slice am md.length cm) y0 (HM.out.below hyb.bel (Nat.le_refl _)) nm').mono ?_
        rintro e x5 ⟨v2, rfl, ho2, hb2⟩
        obtain ⟨va, ca, ex2⟩ := own_slice ho2
        subst ex2
        replace hyb := hyb.more hb2
        replace hc0 := blk_more hc0 hb2
        replace hg0 := own_below hg0 hb2 (Nat.le_refl _)
        replace hsz := Nat.le_trans hsz hb2.size
        have hva := own_mono ho2 (Nat.zero_le _)
        clear hb2 ho2
        refine hK.out _ _ (fun _ => by exact ⟨(cells_at hc0 0).trans rfl, (cells_at hc0 1).trans rfl⟩) ?_
        clear hK K'
        refine wpAnyT_two (i := 7) (j := 15) (by kernel_rfl) rfl rfl rfl rfl (fun K' hK => ?_) (fun K' hK => ?_)
        · go_simp
          go_at_call 9
          refine (floats_any dr (.slice ad dr.length cd) x5 (HD.out.below hyb.bel (Nat.le_refl _)) nd).mono ?_
          rintro e x6 ⟨v2, rfl, ho2, hb2⟩
          obtain ⟨vb, cb, ex2⟩ := own_slice ho2
          subst ex2
          replace hyb := hyb.more hb2
          replace hc0 := blk_more hc0 hb2
          replace hg0 := own_below hg0 hb2 (Nat.le_refl _)
          replace hva := own_below hva hb2 (Nat.le_refl _)
          replace hsz := Nat.le_trans hsz hb2.size
          have hvb := own_mono ho2 (Nat.zero_le _)
          clear hb2 ho2
          refine hK.out _ _ (fun _ => by exact ⟨(cells_at hc0 0).trans rfl, (cells_at hc0 1).trans rfl⟩) ?_
          clear hK K'
          refine wpAnyT_two (i := 9) (j := 15) (by kernel_rfl) rfl rfl rfl rfl (fun K' hK => ?_) (fun K' hK => ?_)
          · refine step_append_any rfl _ _ 27 rfl 0 46 i46 _ 2 16 Try.underlying27 hi46 h460 h461 h462 rfl (by decide) _ 0 [] rfl (World.ownsRow_nil _ _ _ _) (.slice al l.length cl) l.length (l.flatMap sgc) rfl (HL.out.below hyb.bel (Nat.le_refl _)) (st_one l) (by unfold maxLen; omega) (by omega) (Nat.zero_le _) ?_
            intro v2 x7 ho2 hgr2
            have hb2 : Below x6.heap.size x6 x7 := (Below.refl _ x6).grown hgr2 (Nat.le_refl _) (fun k e => by cases e)
            rw [Nat.zero_add, List.nil_append] at ho2
            obtain ⟨vc, cc, ex2⟩ := own_slice ho2
            subst ex2
            replace hyb := hyb.more hb2
            replace hc0 := blk_more hc0 hb2
            replace hg0 := own_below hg0 hb2 (Nat.le_refl _)
            replace hva := own_below hva hb2 (Nat.le_refl _)
            replace hvb := own_below hvb hb2 (Nat.le_refl _)
            replace hsz := Nat.le_trans hsz hb2.size
            have hvc := ho2
            clear hb2 ho2 hgr2
            refine hK.out _ _ (fun _ => by exact ⟨(cells_at hc0 0).trans rfl, (cells_at hc0 1).trans rfl⟩) ?_
            clear hK K'
            try simp only [Act.put, List.setIfInBounds_toArray]
            refine wpAnyT_two (i := 10) (j := 15) (by kernel_rfl) rfl rfl rfl rfl (fun K' hK => ?_) (fun K' hK => ?_)
            · go_simp
              go_at_call 8
              refine (Run_any f damp mass dt md dr l g (.slice va md.length ca) (.slice vb dr.length cb) (.slice vc l.length cc) (.slice ga g.length gc) x7 (rowAt_of_own hva) (rowAt_of_own hvb) (rowAt_of_own hvc) (rowAt_of_own hg0)).mono ?_
              intro e x8 hro
              obtain ⟨r, ha, hn, hc, ta, tn, tc, code, hee, hres, hb2⟩ := hro.res
              subst hee
              replace hyb := hyb.more hb2
              replace hc0 := blk_more hc0 hb2
              replace hg0 := own_below hg0 hb2 (Nat.le_refl _)
              replace hsz := Nat.le_trans hsz hb2.size
              clear hb2 hro hva hvb hvc
              refine hK.out _ _ (fun _ => by exact ⟨(cells_at hc0 0).trans rfl, (cells_at hc0 1).trans rfl⟩) ?_
              clear hK K'
              refine wpAnyD_takeAt 11 (some 28) (v := ?_) rfl (by kernel_rfl) (by kernel_rfl) (by kernel_rfl) (by kernel_rfl) (by kernel_rfl) (fun _ _ _ h => h) (by exact ⟨(cells_at hc0 0).trans rfl, (cells_at hc0 1).trans rfl⟩) (fun o hop => ?_) ?_
              rotate_left
              · injection hop with hop
                subst hop
                refine ⟨rfl, fun W hW => ?_⟩
                obtain ⟨s0, s1⟩ := hW
                go_simp
                try rfl
              try simp only [Act.put, List.setIfInBounds_toArray, List.set_cons_zero, List.set_cons_succ]
              refine wpAnyD_takeAt 12 (some 40) (v := ?_) rfl (by kernel_rfl) (by kernel_rfl) (by kernel_rfl) (by kernel_rfl) (by kernel_rfl) (fun _ _ _ h => h) (by exact ⟨(cells_at hc0 0).trans rfl, (cells_at hc0 1).trans rfl⟩) (fun o hop => ?_) ?_
              rotate_left
              · injection hop with hop
                subst hop
                refine ⟨rfl, fun W hW => ?_⟩
                obtain ⟨s0, s1⟩ := hW
                go_simp
                try rfl
              try simp only [Act.put, List.setIfInBounds_toArray, List.set_cons_zero, List.set_cons_succ]
              refine wpAnyD_takeAt 13 (some 41) (v := ?_) rfl (by kernel_rfl) (by kernel_rfl) (by kernel_rfl) (by kernel_rfl) (by kernel_rfl) (fun _ _ _ h => h) (by exact ⟨(cells_at hc0 0).trans rfl, (cells_at hc0 1).trans rfl⟩) (fun o hop => ?_) ?_
              rotate_left
              · injection hop with hop
                subst hop
                refine ⟨rfl, fun W hW => ?_⟩
                obtain ⟨s0, s1⟩ := hW
                go_simp
                try rfl
              try simp only [Act.put, List.setIfInBounds_toArray, List.set_cons_zero, List.set_cons_succ]
              refine wpAnyD_takeAt 14 (some 42) (v := ?_) rfl (by kernel_rfl) (by kernel_rfl) (by kernel_rfl) (by kernel_rfl) (by kernel_rfl) (fun _ _ _ h => h) (by exact ⟨(cells_at hc0 0).trans rfl, (cells_at hc0 1).trans rfl⟩) (fun o hop => ?_) ?_
              rotate_left
              · injection hop with hop
                subst hop
                refine ⟨rfl, fun W hW => ?_⟩
                obtain ⟨s0, s1⟩ := hW
                go_simp
                try rfl
              try simp only [Act.put, List.setIfInBounds_toArray, List.set_cons_zero, List.set_cons_succ]
              refine wpAnyT_one (i := 15) (by kernel_rfl) rfl rfl (fun K' hK => ?_)
              go_simp
              refine hK.out _ _ (fun _ => by exact ⟨(cells_at (blk_more hc0 (below_al _ _)) 0).trans rfl, (cells_at (blk_more hc0 (below_al _ _)) 1).trans rfl⟩) ?_
              clear hK K'
              obtain ⟨D, hD⟩ : ∃ x, x = x8.heap.size := ⟨_, rfl⟩
              rw [← hD]
              refine wpAnyT_letter (fun W => YB w W Y #[.float .f64 f, .slice ag g.length cg] ∧ W.heap[C]? = some (.cells #[.float .f64 f, .slice ga g.length gc] 25 (0, 0)) ∧ W.ownsRow 0 4 1 (.slice ga g.length gc) g.length (g.map Value.bool) ∧ ResW f damp mass dt md dr l g W r (.slice ha hn hc) (.slice ta tn tc) code ∧ W.heap[D]? = some (.cells zero2 25 (0, 0)) ∧ wc.heap.size ≤ D) ⟨hyb.more (below_al _ _), blk_more hc0 (below_al _ _), own_below hg0 (below_al _ _) (Nat.le_refl _), hres.keep (KeepE.below (below_al _ _) (Nat.le_refl _)), (by rw [hD]; exact alloc_new _ _), (by rw [hD]; exact hsz)⟩ ?_
              clear hyb hc0 hg0 hres hD hsz
              rintro x9 ⟨hyb, hc0, hg0, hres, hzd, hdz⟩
              have hsd : w.heap.size ≤ D := by have := HYS.out; omega
              have hnd : Y ≠ D := by have := HYS.out; omega
              have hncd : C ≠ D := by have := HYS.out; omega
              have z0 : x9.cell? ⟨D, 0, none⟩ = some (.float .f64 0) := (cells_at hzd 0).trans rfl
              have z1 : x9.cell? ⟨D, 1, none⟩ = some (.slice none 0 0) := (cells_at hzd 1).trans rfl
              have t0 := frozen_no hzd 0
              have t1 := frozen_no hzd 1
              refine wpAnyT_one (i := 16) (by kernel_rfl) rfl rfl (fun K' hK => ?_)
              go_simp
              have hfin : YB w ((x9.setCell ⟨D, 0, none⟩ (.float .f64 r)).setCell ⟨D, 1, none⟩ (.slice ha hn hc)) Y #[.float .f64 f, .slice ag g.length cg] ∧ ((x9.setCell ⟨D, 0, none⟩ (.float .f64 r)).setCell ⟨D, 1, none⟩ (.slice ha hn hc)).heap[D]? = some (.cells #[.float .f64 r, .slice ha hn hc] 25 (0, 0)) ∧ ResW f damp mass dt md dr l g ((x9.setCell ⟨D, 0, none⟩ (.float .f64 r)).setCell ⟨D, 1, none⟩ (.slice ha hn hc)) r (.slice ha hn hc) (.slice ta tn tc) code ∧ ((x9.setCell ⟨D, 0, none⟩ (.float .f64 r)).setCell ⟨D, 1, none⟩ (.slice ha hn hc)).heap[C]? = some (.cells #[.float .f64 f, .slice ga g.length gc] 25 (0, 0)) := by
                refine ⟨⟨?_, (hyb.bel.setCell (p := ⟨D, 0, none⟩) hsd _).setCell (p := ⟨D, 1, none⟩) hsd _⟩, (set_any (set_any hzd 0 _) 1 _).trans (congrArg (fun c => some (Obj.cells c 25 (0, 0))) (set2 _ _ _ _)), hres.keep ((keep_set hzd 0 _).trans (keep_set (set_any hzd 0 _) 1 _)), ?_⟩
                · rw [Below.heap_setCell _ _ _ Y hnd, Below.heap_setCell _ _ _ Y hnd]
                  exact hyb.hY
                · rw [Below.heap_setCell _ _ _ C hncd, Below.heap_setCell _ _ _ C hncd]
                  exact hc0
              refine hK.out _ _ (fun _ => by exact ⟨(cells_at hfin.2.2.2 0).trans rfl, (cells_at hfin.2.2.2 1).trans rfl⟩) ?_
              clear hK K' z0 z1 t0 t1 hsd hnd hncd
              refine wpAnyT_letter (fun W => YB w W Y #[.float .f64 f, .slice ag g.length cg] ∧ W.heap[D]? = some (.cells #[.float .f64 r, .slice ha hn hc] 25 (0, 0)) ∧ ResW f damp mass dt md dr l g W r (.slice ha hn hc) (.slice ta tn tc) code ∧ W.heap[C]? = some (.cells #[.float .f64 f, .slice ga g.length gc] 25 (0, 0))) hfin ?_
              clear hfin hyb hc0 hg0 hzd hres hdz
              rintro xf hfin
              refine wpAnyT_one (i := 17) (by kernel_rfl) rfl rfl (fun K' hK => ?_)
              go_simp
              refine hK.out _ _ (fun _ => by exact ⟨(cells_at hfin.2.2.2 0).trans rfl, (cells_at hfin.2.2.2 1).trans rfl⟩) ?_
              clear hK K'
              refine wpAnyT_one (i := 18) (by kernel_rfl) rfl rfl (fun K' hK => ?_)
              go_simp
              refine hK.out _ _ (fun h => absurd rfl h) ?_
              clear hK K'
              refine wpAnyT_done (by kernel_rfl) ?_ _
              have HFIN := hide' (show YB w xf Y #[.float .f64 f, .slice ag g.length cg] ∧ xf.heap[D]? = some (.cells #[.float .f64 r, .slice ha hn hc] 25 (0, 0)) ∧ ResW f damp mass dt md dr l g xf r (.slice ha hn hc) (.slice ta tn tc) code from ⟨hfin.1, hfin.2.1, hfin.2.2.1⟩)
              clear hfin
              go_wp2_with fail
              go_meet
              case rel => exact ⟨D, r, ha, hn, hc, ta, tn, tc, code, rfl, rfl, rfl, HFIN⟩
            · go_simp
              refine hK.out _ _ (fun _ => by exact ⟨(cells_at (blk_more hc0 (below_al _ _)) 0).trans rfl, (cells_at (blk_more hc0 (below_al _ _)) 1).trans rfl⟩) ?_
              clear hK K'
              obtain ⟨D, hD⟩ : ∃ x, x = x7.heap.size := ⟨_, rfl⟩
              rw [← hD]
              refine wpAnyT_letter (fun W => YB w W Y #[.float .f64 f, .slice ag g.length cg] ∧ W.heap[C]? = some (.cells #[.float .f64 f, .slice ga g.length gc] 25 (0, 0)) ∧ W.ownsRow 0 4 1 (.slice ga g.length gc) g.length (g.map Value.bool) ∧ W.ownsRow 0 22 1 (.slice va md.length ca) md.length (fls md) ∧ W.ownsRow 0 22 1 (.slice vb dr.length cb) dr.length (fls dr) ∧ W.ownsRow 0 46 2 (.slice vc l.length cc) l.length (l.flatMap sgc) ∧ W.heap[D]? = some (.cells zero2 25 (0, 0)) ∧ wc.heap.size ≤ D) ⟨hyb.more (below_al _ _), blk_more hc0 (below_al _ _), own_below hg0 (below_al _ _) (Nat.le_refl _), own_below hva (below_al _ _) (Nat.le_refl _), own_below hvb (below_al _ _) (Nat.le_refl _), own_below hvc (below_al _ _) (Nat.le_refl _), (by rw [hD]; exact alloc_new _ _), (by rw [hD]; exact hsz)⟩ ?_
              clear hyb hc0 hg0 hva hvb hvc hD hsz
              rintro x10 ⟨hyb, hc0, hg0, hva, hvb, hvc, hzd, hdz⟩
              refine wpAnyT_one (i := 10) (by kernel_rfl) rfl rfl (fun K' hK => ?_)
              go_simp
              go_at_call 8
              refine (Run_any f damp mass dt md dr l g (.slice va md.length ca) (.slice vb dr.length cb) (.slice vc l.length cc) (.slice ga g.length gc) x10 (rowAt_of_own hva) (rowAt_of_own hvb) (rowAt_of_own hvc) (rowAt_of_own hg0)).mono ?_
              intro e x11 hro
              obtain ⟨r, ha, hn, hc, ta, tn, tc, code, hee, hres, hb2⟩ := hro.res
              subst hee
              replace hyb := hyb.more hb2
              replace hc0 := blk_more hc0 hb2
              replace hg0 := own_below hg0 hb2 (Nat.le_refl _)
              replace hzd := blk_more hzd hb2
              clear hb2 hro hva hvb hvc
              refine hK.out _ _ (fun _ => by exact ⟨(cells_at hc0 0).trans rfl, (cells_at hc0 1).trans rfl⟩) ?_
              clear hK K'
              refine wpAnyD_takeAt 11 (some 28) (v := ?_) rfl (by kernel_rfl) (by kernel_rfl) (by kernel_rfl) (by kernel_rfl) (by kernel_rfl) (fun _ _ _ h => h) (by exact ⟨(cells_at hc0 0).trans rfl, (cells_at hc0 1).trans rfl⟩) (fun o hop => ?_) ?_
              rotate_left
              · injection hop with hop
                subst hop
                refine ⟨rfl, fun W hW => ?_⟩
                obtain ⟨s0, s1⟩ := hW
                go_simp
                try rfl
              try simp only [Act.put, List.setIfInBounds_toArray, List.set_cons_zero, List.set_cons_succ]
              refine wpAnyD_takeAt 12 (some 40) (v := ?_) rfl (by kernel_rfl) (by kernel_rfl) (by kernel_rfl) (by kernel_rfl) (by kernel_rfl) (fun _ _ _ h => h) (by exact ⟨(cells_at hc0 0).trans rfl, (cells_at hc0 1).trans rfl⟩) (fun o hop => ?_) ?_
              rotate_left
              · injection hop with hop
                subst hop
                refine ⟨rfl, fun W hW => ?_⟩
                obtain ⟨s0, s1⟩ := hW
                go_simp
                try rfl
              try simp only [Act.put, List.setIfInBounds_toArray, List.set_cons_zero, List.set_cons_succ]
              refine wpAnyD_takeAt 13 (some 41) (v := ?_) rfl (by kernel_rfl) (by kernel_rfl) (by kernel_rfl) (by kernel_rfl) (by kernel_rfl) (fun _ _ _ h => h) (by exact ⟨(cells_at hc0 0).trans rfl, (cells_at hc0 1).trans rfl⟩) (fun o hop => ?_) ?_
              rotate_left
              · injection hop with hop
                subst hop
                refine ⟨rfl, fun W hW => ?_⟩
                obtain ⟨s0, s1⟩ := hW
                go_simp
                try rfl
              try simp only [Act.put, List.setIfInBounds_toArray, List.set_cons_zero, List.set_cons_succ]
              refine wpAnyD_takeAt 14 (some 42) (v := ?_) rfl (by kernel_rfl) (by kernel_rfl) (by kernel_rfl) (by kernel_rfl) (by kernel_rfl) (fun _ _ _ h => h) (by exact ⟨(cells_at hc0 0).trans rfl, (cells_at hc0 1).trans rfl⟩) (fun o hop => ?_) ?_
              rotate_left
              · injection hop with hop
                subst hop
                refine ⟨rfl, fun W hW => ?_⟩
                obtain ⟨s0, s1⟩ := hW
                go_simp
                try rfl
              try simp only [Act.put, List.setIfInBounds_toArray, List.set_cons_zero, List.set_cons_succ]
              have hsd : w.heap.size ≤ D := by have := HYS.out; omega
              have hnd : Y ≠ D := by have := HYS.out; omega
              have hncd : C ≠ D := by have := HYS.out; omega
              have z0 : x11.cell? ⟨D, 0, none⟩ = some (.float .f64 0) := (cells_at hzd 0).trans rfl
              have z1 : x11.cell? ⟨D, 1, none⟩ = some (.slice none 0 0) := (cells_at hzd 1).trans rfl
              have t0 := frozen_no hzd 0
              have t1 := frozen_no hzd 1
              refine wpAnyT_one (i := 16) (by kernel_rfl) rfl rfl (fun K' hK => ?_)
              go_simp
              have hfin : YB w ((x11.setCell ⟨D, 0, none⟩ (.float .f64 r)).setCell ⟨D, 1, none⟩ (.slice ha hn hc)) Y #[.float .f64 f, .slice ag g.length cg] ∧ ((x11.setCell ⟨D, 0, none⟩ (.float .f64 r)).setCell ⟨D, 1, none⟩ (.slice ha hn hc)).heap[D]? = some (.cells #[.float .f64 r, .slice ha hn hc] 25 (0, 0)) ∧ ResW f damp mass dt md dr l g ((x11.setCell ⟨D, 0, none⟩ (.float .f64 r)).setCell ⟨D, 1, none⟩ (.slice ha hn hc)) r (.slice ha hn hc) (.slice ta tn tc) code ∧ ((x11.setCell ⟨D, 0, none⟩ (.float .f64 r)).setCell ⟨D, 1, none⟩ (.slice ha hn hc)).heap[C]? = some (.cells #[.float .f64 f, .slice ga g.length gc] 25 (0, 0)) := by
                refine ⟨⟨?_, (hyb.bel.setCell (p := ⟨D, 0, none⟩) hsd _).setCell (p := ⟨D, 1, none⟩) hsd _⟩, (set_any (set_any hzd 0 _) 1 _).trans (congrArg (fun c => some (Obj.cells c 25 (0, 0))) (set2 _ _ _ _)), hres.keep ((keep_set hzd 0 _).trans (keep_set (set_any hzd 0 _) 1 _)), ?_⟩
                · rw [Below.heap_setCell _ _ _ Y hnd, Below.heap_setCell _ _ _ Y hnd]
                  exact hyb.hY
                · rw [Below.heap_setCell _ _ _ C hncd, Below.heap_setCell _ _ _ C hncd]
                  exact hc0
              refine hK.out _ _ (fun _ => by exact ⟨(cells_at hfin.2.2.2 0).trans rfl, (cells_at hfin.2.2.2 1).trans rfl⟩) ?_
              clear hK K' z0 z1 t0 t1 hsd hnd hncd
              refine wpAnyT_letter (fun W => YB w W Y #[.float .f64 f, .slice ag g.length cg] ∧ W.heap[D]? = some (.cells #[.float .f64 r, .slice ha hn hc] 25 (0, 0)) ∧ ResW f damp mass dt md dr l g W r (.slice ha hn hc) (.slice ta tn tc) code ∧ W.heap[C]? = some (.cells #[.float .f64 f, .slice ga g.length gc] 25 (0, 0))) hfin ?_
              clear hfin hyb hc0 hg0 hzd hres hdz
              rintro xf hfin
              refine wpAnyT_one (i := 17) (by kernel_rfl) rfl rfl (fun K' hK => ?_)
              go_simp
              refine hK.out _ _ (fun _ => by exact ⟨(cells_at hfin.2.2.2 0).trans rfl, (cells_at hfin.2.2.2 1).trans rfl⟩) ?_
              clear hK K'
              refine wpAnyT_one (i := 18) (by kernel_rfl) rfl rfl (fun K' hK => ?_)
              go_simp
              refine hK.out _ _ (fun h => absurd rfl h) ?_
              clear hK K'
              refine wpAnyT_done (by kernel_rfl) ?_ _
              have HFIN := hide' (show YB w xf Y #[.float .f64 f, .slice ag g.length cg] ∧ xf.heap[D]? = some (.cells #[.float .f64 r, .slice ha hn hc] 25 (0, 0)) ∧ ResW f damp mass dt md dr l g xf r (.slice ha hn hc) (.slice ta tn tc) code from ⟨hfin.1, hfin.2.1, hfin.2.2.1⟩)
              clear hfin
              go_wp2_with fail
              go_meet
              case rel => exact ⟨D, r, ha, hn, hc, ta, tn, tc, code, rfl, rfl, rfl, HFIN⟩
          · go_simp
            refine hK.out _ _ (fun _ => by exact ⟨(cells_at (blk_more hc0 (below_al _ _)) 0).trans rfl, (cells_at (blk_more hc0 (below_al _ _)) 1).trans rfl⟩) ?_
            clear hK K'
            obtain ⟨D, hD⟩ : ∃ x, x = x6.heap.size := ⟨_, rfl⟩
            rw [← hD]
            refine wpAnyT_letter (fun W => YB w W Y #[.float .f64 f, .slice ag g.length cg] ∧ W.heap[C]? = some (.cells #[.float .f64 f, .slice ga g.length gc] 25 (0, 0)) ∧ W.ownsRow 0 4 1 (.slice ga g.length gc) g.length (g.map Value.bool) ∧ W.ownsRow 0 22 1 (.slice va md.length ca) md.length (fls md) ∧ W.ownsRow 0 22 1 (.slice vb dr.length cb) dr.length (fls dr) ∧ W.heap[D]? = some (.cells zero2 25 (0, 0)) ∧ wc.heap.size ≤ D) ⟨hyb.more (below_al _ _), blk_more hc0 (below_al _ _), own_below hg0 (below_al _ _) (Nat.le_refl _), own_below hva (below_al _ _) (Nat.le_refl _), own_below hvb (below_al _ _) (Nat.le_refl _), (by rw [hD]; exact alloc_new _ _), (by rw [hD]; exact hsz)⟩ ?_
            clear hyb hc0 hg0 hva hvb hD hsz
            rintro x12 ⟨hyb, hc0, hg0, hva, hvb, hzd, hdz⟩
            refine wpAnyT_one (i := 9) (by kernel_rfl) rfl rfl (fun K' hK => ?_)
            refine step_append_any rfl _ _ 27 rfl 0 46 i46 _ 2 16 Try.underlying27 hi46 h460 h461 h462 rfl (by decide) _ 0 [] rfl (World.ownsRow_nil _ _ _ _) (.slice al l.length cl) l.length (l.flatMap sgc) rfl (HL.out.below hyb.bel (Nat.le_refl _)) (st_one l) (by unfold maxLen; omega) (by omega) (Nat.zero_le _) ?_
            intro v2 x13 ho2 hgr2
            have hb2 : Below x12.heap.size x12 x13 := (Below.refl _ x12).grown hgr2 (Nat.le_refl _) (fun k e => by cases e)
            rw [Nat.zero_add, List.nil_append] at ho2
            obtain ⟨vc, cc, ex2⟩ := own_slice ho2
            subst ex2
            replace hyb := hyb.more hb2
            replace hc0 := blk_more hc0 hb2
            replace hg0 := own_below hg0 hb2 (Nat.le_refl _)
            replace hva := own_below hva hb2 (Nat.le_refl _)
            replace hvb := own_below hvb hb2 (Nat.le_refl _)
            replace hzd := blk_more hzd hb2
            have hvc := ho2
            clear hb2 ho2 hgr2
            refine hK.out _ _ (fun _ => by exact ⟨(cells_at hc0 0).trans rfl, (cells_at hc0 1).trans rfl⟩) ?_
            clear hK K'
            try simp only [Act.put, List.setIfInBounds_toArray]
            refine wpAnyT_one (i := 10) (by kernel_rfl) rfl rfl (fun K' hK => ?_)
            go_simp
            go_at_call 8
            refine (Run_any f damp mass dt md dr l g (.slice va md.length ca) (.slice vb dr.length cb) (.slice vc l.length cc) (.slice ga g.length gc) x13 (rowAt_of_own hva) (rowAt_of_own hvb) (rowAt_of_own hvc) (rowAt_of_own hg0)).mono ?_
            intro e x14 hro
            obtain ⟨r, ha, hn, hc, ta, tn, tc, code, hee, hres, hb2⟩ := hro.res
            subst hee
            replace hyb := hyb.more hb2
            replace hc0 := blk_more hc0 hb2
            replace hg0 := own_below hg0 hb2 (Nat.le_refl _)
            replace hzd := blk_more hzd hb2
            clear hb2 hro hva hvb hvc
            refine hK.out _ _ (fun _ => by exact ⟨(cells_at hc0 0).trans rfl, (cells_at hc0 1).trans rfl⟩) ?_
            clear hK K'
            refine wpAnyD_takeAt 11 (some 28) (v := ?_) rfl (by kernel_rfl) (by kernel_rfl) (by kernel_rfl) (by kernel_rfl) (by kernel_rfl) (fun _ _ _ h => h) (by exact ⟨(cells_at hc0 0).trans rfl, (cells_at hc0 1).trans rfl⟩) (fun o hop => ?_) ?_
            rotate_left
            · injection hop with hop
              subst hop
              refine ⟨rfl, fun W hW => ?_⟩
              obtain ⟨s0, s1⟩ := hW
              go_simp
              try rfl
            try simp only [Act.put, List.setIfInBounds_toArray, List.set_cons_zero, List.set_cons_succ]
            refine wpAnyD_takeAt 12 (some 40) (v := ?_) rfl (by kernel_rfl) (by kernel_rfl) (by kernel_rfl) (by kernel_rfl) (by kernel_rfl) (fun _ _ _ h => h) (by exact ⟨(cells_at hc0 0).trans rfl, (cells_at hc0 1).trans rfl⟩) (fun o hop => ?_) ?_
            rotate_left
            · injection hop with hop
              subst hop
              refine ⟨rfl, fun W hW => ?_⟩
              obtain ⟨s0, s1⟩ := hW
              go_simp
              try rfl
            try simp only [Act.put, List.setIfInBounds_toArray, List.set_cons_zero, List.set_cons_succ]
            refine wpAnyD_takeAt 13 (some 41) (v := ?_) rfl (by kernel_rfl) (by kernel_rfl) (by kernel_rfl) (by kernel_rfl) (by kernel_rfl) (fun _ _ _ h => h) (by exact ⟨(cells_at hc0 0).trans rfl, (cells_at hc0 1).trans rfl⟩) (fun o hop => ?_) ?_
            rotate_left
            · injection hop with hop
              subst hop
              refine ⟨rfl, fun W hW => ?_⟩
              obtain ⟨s0, s1⟩ := hW
              go_simp
              try rfl
            try simp only [Act.put, List.setIfInBounds_toArray, List.set_cons_zero, List.set_cons_succ]
            refine wpAnyD_takeAt 14 (some 42) (v := ?_) rfl (by kernel_rfl) (by kernel_rfl) (by kernel_rfl) (by kernel_rfl) (by kernel_rfl) (fun _ _ _ h => h) (by exact ⟨(cells_at hc0 0).trans rfl, (cells_at hc0 1).trans rfl⟩) (fun o hop => ?_) ?_
            rotate_left
            · injection hop with hop
              subst hop
              refine ⟨rfl, fun W hW => ?_⟩
              obtain ⟨s0, s1⟩ := hW
              go_simp
              try rfl
            try simp only [Act.put, List.setIfInBounds_toArray, List.set_cons_zero, List.set_cons_succ]
            have hsd : w.heap.size ≤ D := by have := HYS.out; omega
            have hnd : Y ≠ D := by have := HYS.out; omega
            have hncd : C ≠ D := by have := HYS.out; omega
            have z0 : x14.cell? ⟨D, 0, none⟩ = some (.float .f64 0) := (cells_at hzd 0).trans rfl
            have z1 : x14.cell? ⟨D, 1, none⟩ = some (.slice none 0 0) := (cells_at hzd 1).trans rfl
            have t0 := frozen_no hzd 0
            have t1 := frozen_no hzd 1
            refine wpAnyT_one (i := 16) (by kernel_rfl) rfl rfl (fun K' hK => ?_)
            go_simp
            have hfin : YB w ((x14.setCell ⟨D, 0, none⟩ (.float .f64 r)).setCell ⟨D, 1, none⟩ (.slice ha hn hc)) Y #[.float .f64 f, .slice ag g.length cg] ∧ ((x14.setCell ⟨D, 0, none⟩ (.float .f64 r)).setCell ⟨D, 1, none⟩ (.slice ha hn hc)).heap[D]? = some (.cells #[.float .f64 r, .slice ha hn hc] 25 (0, 0)) ∧ ResW f damp mass dt md dr l g ((x14.setCell ⟨D, 0, none⟩ (.float .f64 r)).setCell ⟨D, 1, none⟩ (.slice ha hn hc)) r (.slice ha hn hc) (.slice ta tn tc) code ∧ ((x14.setCell ⟨D, 0, none⟩ (.float .f64 r)).setCell ⟨D, 1, none⟩ (.slice ha hn hc)).heap[C]? = some (.cells #[.float .f64 f, .slice ga g.length gc] 25 (0, 0)) := by
              refine ⟨⟨?_, (hyb.bel.setCell (p := ⟨D, 0, none⟩) hsd _).setCell (p := ⟨D, 1, none⟩) hsd _⟩, (set_any (set_any hzd 0 _) 1 _).trans (congrArg (fun c => some (Obj.cells c 25 (0, 0))) (set2 _ _ _ _)), hres.keep ((keep_set hzd 0 _).trans (keep_set (set_any hzd 0 _) 1 _)), ?_⟩
              · rw [Below.heap_setCell _ _ _ Y hnd, Below.heap_setCell _ _ _ Y hnd]
                exact hyb.hY
              · rw [Below.heap_setCell _ _ _ C hncd, Below.heap_setCell _ _ _ C hncd]
                exact hc0
            refine hK.out _ _ (fun _ => by exact ⟨(cells_at hfin.2.2.2 0).trans rfl, (cells_at hfin.2.2.2 1).trans rfl⟩) ?_
            clear hK K' z0 z1 t0 t1 hsd hnd hncd
            refine wpAnyT_letter (fun W => YB w W Y #[.float .f64 f, .slice ag g.length cg] ∧ W.heap[D]? = some (.cells #[.float .f64 r, .slice ha hn hc] 25 (0, 0)) ∧ ResW f damp mass dt md dr l g W r (.slice ha hn hc) (.slice ta tn tc) code ∧ W.heap[C]? = some (.cells #[.float .f64 f, .slice ga g.length gc] 25 (0, 0))) hfin ?_
            clear hfin hyb hc0 hg0 hzd hres hdz
            rintro xf hfin
            refine wpAnyT_one (i := 17) (by kernel_rfl) rfl rfl (fun K' hK => ?_)
            go_simp
            refine hK.out _ _ (fun _ => by exact ⟨(cells_at hfin.2.2.2 0).trans rfl, (cells_at hfin.2.2.2 1).trans rfl⟩) ?_
            clear hK K'
            refine wpAnyT_one (i := 18) (by kernel_rfl) rfl rfl (fun K' hK => ?_)
            go_simp
            refine hK.out _ _ (fun h => absurd rfl h) ?_
            clear hK K'
            refine wpAnyT_done (by kernel_rfl) ?_ _
            have HFIN := hide' (show YB w xf Y #[.float .f64 f, .slice ag g.length cg] ∧ xf.heap[D]? = some (.cells #[.float .f64 r, .slice ha hn hc] 25 (0, 0)) ∧ ResW f damp mass dt md dr l g xf r (.slice ha hn hc) (.slice ta tn tc) code from ⟨hfin.1, hfin.2.1, hfin.2.2.1⟩)
            clear hfin
            go_wp2_with fail
            go_meet
            case rel => exact ⟨D, r, ha, hn, hc, ta, tn, tc, code, rfl, rfl, rfl, HFIN⟩
        · go_simp
          refine hK.out _ _ (fun _ => by exact ⟨(cells_at (blk_more hc0 (below_al _ _)) 0).trans rfl, (cells_at (blk_more hc0 (below_al _ _)) 1).trans rfl⟩) ?_
          clear hK K'
          obtain ⟨D, hD⟩ : ∃ x, x = x5.heap.size := ⟨_, rfl⟩
          rw [← hD]
          refine wpAnyT_letter (fun W => YB w W Y #[.float .f64 f, .slice ag g.length cg] ∧ W.heap[C]? = some (.cells #[.float .f64 f, .slice ga g.length gc] 25 (0, 0)) ∧ W.ownsRow 0 4 1 (.slice ga g.length gc) g.length (g.map Value.bool) ∧ W.ownsRow 0 22 1 (.slice va md.length ca) md.length (fls md) ∧ W.heap[D]? = some (.cells zero2 25 (0, 0)) ∧ wc.heap.size ≤ D) ⟨hyb.more (below_al _ _), blk_more hc0 (below_al _ _), own_below hg0 (below_al _ _) (Nat.le_refl _), own_below hva (below_al _ _) (Nat.le_refl _), (by rw [hD]; exact alloc_new _ _), (by rw [hD]; exact hsz)⟩ ?_
          clear hyb hc0 hg0 hva hD hsz
          rintro x15 ⟨hyb, hc0, hg0, hva, hzd, hdz⟩
          refine wpAnyT_one (i := 7) (by kernel_rfl) rfl rfl (fun K' hK => ?_)
          go_simp
          go_at_call 9
          refine (floats_any dr (.slice ad dr.length cd) x15 (HD.out.below hyb.bel (Nat.le_refl _)) nd).mono ?_
          rintro e x16 ⟨v2, rfl, ho2, hb2⟩
          obtain ⟨vb, cb, ex2⟩ := own_slice ho2
          subst ex2
          replace hyb := hyb.more hb2
          replace hc0 := blk_more hc0 hb2
          replace hg0 := own_below hg0 hb2 (Nat.le_refl _)
          replace hva := own_below hva hb2 (Nat.le_refl _)
          replace hzd := blk_more hzd hb2
          have hvb := own_mono ho2 (Nat.zero_le _)
          clear hb2 ho2
          refine hK.out _ _ (fun _ => by exact ⟨(cells_at hc0 0).trans rfl, (cells_at hc0 1).trans rfl⟩) ?_
          clear hK K'
          refine wpAnyT_one (i := 9) (by kernel_rfl) rfl rfl (fun K' hK => ?_)
          refine step_append_any rfl _ _ 27 rfl 0 46 i46 _ 2 16 Try.underlying27 hi46 h460 h461 h462 rfl (by decide) _ 0 [] rfl (World.ownsRow_nil _ _ _ _) (.slice al l.length cl) l.length (l.flatMap sgc) rfl (HL.out.below hyb.bel (Nat.le_refl _)) (st_one l) (by unfold maxLen; omega) (by omega) (Nat.zero_le _) ?_
          intro v2 x17 ho2 hgr2
          have hb2 : Below x16.heap.size x16 x17 := (Below.refl _ x16).grown hgr2 (Nat.le_refl _) (fun k e => by cases e)
          rw [Nat.zero_add, List.nil_append] at ho2
          obtain ⟨vc, cc, ex2⟩ := own_slice ho2
          subst ex2
          replace hyb := hyb.more hb2
          replace hc0 := blk_more hc0 hb2
          replace hg0 := own_below hg0 hb2 (Nat.le_refl _)
          replace hva := own_below hva hb2 (Nat.le_refl _)
          replace hvb := own_below hvb hb2 (Nat.le_refl _)
          replace hzd := blk_more hzd hb2
          have hvc := ho2
          clear hb2 ho2 hgr2
          refine hK.out _ _ (fun _ => by exact ⟨(cells_at hc0 0).trans rfl, (cells_at hc0 1).trans rfl⟩) ?_
          clear hK K'
          try simp only [Act.put, List.setIfInBounds_toArray]
          refine wpAnyT_one (i := 10) (by kernel_rfl) rfl rfl (fun K' hK => ?_)
          go_simp
          go_at_call 8
          refine (Run_any f damp mass dt md dr l g (.slice va md.length ca) (.slice vb dr.length cb) (.slice vc l.length cc) (.slice ga g.length gc) x17 (rowAt_of_own hva) (rowAt_of_own hvb) (rowAt_of_own hvc) (rowAt_of_own hg0)).mono ?_
          intro e x18 hro
          obtain ⟨r, ha, hn, hc, ta, tn, tc, code, hee, hres, hb2⟩ := hro.res
          subst hee
          replace hyb := hyb.more hb2
          replace hc0 := blk_more hc0 hb2
          replace hg0 := own_below hg0 hb2 (Nat.le_refl _)
          replace hzd := blk_more hzd hb2
          clear hb2 hro hva hvb hvc
          refine hK.out _ _ (fun _ => by exact ⟨(cells_at hc0 0).trans rfl, (cells_at hc0 1).trans rfl⟩) ?_
          clear hK K'
          refine wpAnyD_takeAt 11 (some 28) (v := ?_) rfl (by kernel_rfl) (by kernel_rfl) (by kernel_rfl) (by kernel_rfl) (by kernel_rfl) (fun _ _ _ h => h) (by exact ⟨(cells_at hc0 0).trans rfl, (cells_at hc0 1).trans rfl⟩) (fun o hop => ?_) ?_
          rotate_left
          · injection hop with hop
            subst hop
            refine ⟨rfl, fun W hW => ?_⟩
            obtain ⟨s0, s1⟩ := hW
            go_simp
            try rfl
          try simp only [Act.put, List.setIfInBounds_toArray, List.set_cons_zero, List.set_cons_succ]
          refine wpAnyD_takeAt 12 (some 40) (v := ?_) rfl (by kernel_rfl) (by kernel_rfl) (by kernel_rfl) (by kernel_rfl) (by kernel_rfl) (fun _ _ _ h => h) (by exact ⟨(cells_at hc0 0).trans rfl, (cells_at hc0 1).trans rfl⟩) (fun o hop => ?_) ?_
          rotate_left
          · injection hop with hop
            subst hop
            refine ⟨rfl, fun W hW => ?_⟩
            obtain ⟨s0, s1⟩ := hW
            go_simp
            try rfl
          try simp only [Act.put, List.setIfInBounds_toArray, List.set_cons_zero, List.set_cons_succ]
          refine wpAnyD_takeAt 13 (some 41) (v := ?_) rfl (by kernel_rfl) (by kernel_rfl) (by kernel_rfl) (by kernel_rfl) (by kernel_rfl) (fun _ _ _ h => h) (by exact ⟨(cells_at hc0 0).trans rfl, (cells_at hc0 1).trans rfl⟩) (fun o hop => ?_) ?_
          rotate_left
          · injection hop with hop
            subst hop
            refine ⟨rfl, fun W hW => ?_⟩
            obtain ⟨s0, s1⟩ := hW
            go_simp
            try rfl
          try simp only [Act.put, List.setIfInBounds_toArray, List.set_cons_zero, List.set_cons_succ]
          refine wpAnyD_takeAt 14 (some 42) (v := ?_) rfl (by kernel_rfl) (by kernel_rfl) (by kernel_rfl) (by kernel_rfl) (by kernel_rfl) (fun _ _ _ h => h) (by exact ⟨(cells_at hc0 0).trans rfl, (cells_at hc0 1).trans rfl⟩) (fun o hop => ?_) ?_
          rotate_left
          · injection hop with hop
            subst hop
            refine ⟨rfl, fun W hW => ?_⟩
            obtain ⟨s0, s1⟩ := hW
            go_simp
            try rfl
          try simp only [Act.put, List.setIfInBounds_toArray, List.set_cons_zero, List.set_cons_succ]
          have hsd : w.heap.size ≤ D := by have := HYS.out; omega
          have hnd : Y ≠ D := by have := HYS.out; omega
          have hncd : C ≠ D := by have := HYS.out; omega
          have z0 : x18.cell? ⟨D, 0, none⟩ = some (.float .f64 0) := (cells_at hzd 0).trans rfl
          have z1 : x18.cell? ⟨D, 1, none⟩ = some (.slice none 0 0) := (cells_at hzd 1).trans rfl
          have t0 := frozen_no hzd 0
          have t1 := frozen_no hzd 1
          refine wpAnyT_one (i := 16) (by kernel_rfl) rfl rfl (fun K' hK => ?_)
          go_simp
          have hfin : YB w ((x18.setCell ⟨D, 0, none⟩ (.float .f64 r)).setCell ⟨D, 1, none⟩ (.slice ha hn hc)) Y #[.float .f64 f, .slice ag g.length cg] ∧ ((x18.setCell ⟨D, 0, none⟩ (.float .f64 r)).setCell ⟨D, 1, none⟩ (.slice ha hn hc)).heap[D]? = some (.cells #[.float .f64 r, .slice ha hn hc] 25 (0, 0)) ∧ ResW f damp mass dt md dr l g ((x18.setCell ⟨D, 0, none⟩ (.float .f64 r)).setCell ⟨D, 1, none⟩ (.slice ha hn hc)) r (.slice ha hn hc) (.slice ta tn tc) code ∧ ((x18.setCell ⟨D, 0, none⟩ (.float .f64 r)).setCell ⟨D, 1, none⟩ (.slice ha hn hc)).heap[C]? = some (.cells #[.float .f64 f, .slice ga g.length gc] 25 (0, 0)) := by
            refine ⟨⟨?_, (hyb.bel.setCell (p := ⟨D, 0, none⟩) hsd _).setCell (p := ⟨D, 1, none⟩) hsd _⟩, (set_any (set_any hzd 0 _) 1 _).trans (congrArg (fun c => some (Obj.cells c 25 (0, 0))) (set2 _ _ _ _)), hres.keep ((keep_set hzd 0 _).trans (keep_set (set_any hzd 0 _) 1 _)), ?_⟩
            · rw [Below.heap_setCell _ _ _ Y hnd, Below.heap_setCell _ _ _ Y hnd]
              exact hyb.hY
            · rw [Below.heap_setCell _ _ _ C hncd, Below.heap_setCell _ _ _ C hncd]
              exact hc0
          refine hK.out _ _ (fun _ => by exact ⟨(cells_at hfin.2.2.2 0).trans rfl, (cells_at hfin.2.2.2 1).trans rfl⟩) ?_
          clear hK K' z0 z1 t0 t1 hsd hnd hncd
          refine wpAnyT_letter (fun W => YB w W Y #[.float .f64 f, .slice ag g.length cg] ∧ W.heap[D]? = some (.cells #[.float .f64 r, .slice ha hn hc] 25 (0, 0)) ∧ ResW f damp mass dt md dr l g W r (.slice ha hn hc) (.slice ta tn tc) code ∧ W.heap[C]? = some (.cells #[.float .f64 f, .slice ga g.length gc] 25 (0, 0))) hfin ?_
          clear hfin hyb hc0 hg0 hzd hres hdz
          rintro xf hfin
          refine wpAnyT_one (i := 17) (by kernel_rfl) rfl rfl (fun K' hK => ?_)
          go_simp
          refine hK.out _ _ (fun _ => by exact ⟨(cells_at hfin.2.2.2 0).trans rfl, (cells_at hfin.2.2.2 1).trans rfl⟩) ?_
          clear hK K'
          refine wpAnyT_one (i := 18) (by kernel_rfl) rfl rfl (fun K' hK => ?_)
          go_simp
          refine hK.out _ _ (fun h => absurd rfl h) ?_
          clear hK K'
          refine wpAnyT_done (by kernel_rfl) ?_ _
          have HFIN := hide' (show YB w xf Y #[.float .f64 f, .slice ag g.length cg] ∧ xf.heap[D]? = some (.cells #[.float .f64 r, .slice ha hn hc] 25 (0, 0)) ∧ ResW f damp mass dt md dr l g xf r (.slice ha hn hc) (.slice ta tn tc) code from ⟨hfin.1, hfin.2.1, hfin.2.2.1⟩)
          clear hfin
          go_wp2_with fail
          go_meet
          case rel => exact ⟨D, r, ha, hn, hc, ta, tn, tc, code, rfl, rfl, rfl, HFIN⟩
      · go_simp
        refine hK.out _ _ (fun _ => by exact ⟨(cells_at (blk_more hc0 (below_al _ _)) 0).trans rfl, (cells_at (blk_more hc0 (below_al _ _)) 1).trans rfl⟩) ?_
        clear hK K'
        obtain ⟨D, hD⟩ : ∃ x, x = y0.heap.size := ⟨_, rfl⟩
        rw [← hD]
        refine wpAnyT_letter (fun W => YB w W Y #[.float .f64 f, .slice ag g.length cg] ∧ W.heap[C]? = some (.cells #[.float .f64 f, .slice ga g.length gc] 25 (0, 0)) ∧ W.ownsRow 0 4 1 (.slice ga g.length gc) g.length (g.map Value.bool) ∧ W.heap[D]? = some (.cells zero2 25 (0, 0)) ∧ wc.heap.size ≤ D) ⟨hyb.more (below_al _ _), blk_more hc0 (below_al _ _), own_below hg0 (below_al _ _) (Nat.le_refl _), (by rw [hD]; exact alloc_new _ _), (by rw [hD]; exact hsz)⟩ ?_
        clear hyb hc0 hg0 hD hsz
        rintro x19 ⟨hyb, hc0, hg0, hzd, hdz⟩
        refine wpAnyT_one (i := 5) (by kernel_rfl) rfl rfl (fun K' hK => ?_)
        go_simp
        go_at_call 9
        refine (floats_any md (.slice am md.length cm) x19 (HM.out.below hyb.bel (Nat.le_refl _)) nm').mono ?_
        rintro e x20 ⟨v2, rfl, ho2, hb2⟩
        obtain ⟨va, ca, ex2⟩ := own_slice ho2
        subst ex2
        replace hyb := hyb.more hb2
        replace hc0 := blk_more hc0 hb2
        replace hg0 := own_below hg0 hb2 (Nat.le_refl _)
        replace hzd := blk_more hzd hb2
        have hva := own_mono ho2 (Nat.zero_le _)
        clear hb2 ho2
        refine hK.out _ _ (fun _ => by exact ⟨(cells_at hc0 0).trans rfl, (cells_at hc0 1).trans rfl⟩) ?_
        clear hK K'
        refine wpAnyT_one (i := 7) (by kernel_rfl) rfl rfl (fun K' hK => ?_)
        go_simp
        go_at_call 9
        refine (floats_any dr (.slice ad dr.length cd) x20 (HD.out.below hyb.bel (Nat.le_refl _)) nd).mono ?_
        rintro e x21 ⟨v2, rfl, ho2, hb2⟩
        obtain ⟨vb, cb, ex2⟩ := own_slice ho2
        subst ex2
        replace hyb := hyb.more hb2
        replace hc0 := blk_more hc0 hb2
        replace hg0 := own_below hg0 hb2 (Nat.le_refl _)
        replace hva := own_below hva hb2 (Nat.le_refl _)
        replace hzd := blk_more hzd hb2
        have hvb := own_mono ho2 (Nat.zero_le _)
        clear hb2 ho2
        refine hK.out _ _ (fun _ => by exact ⟨(cells_at hc0 0).trans rfl, (cells_at hc0 1).trans rfl⟩) ?_
        clear hK K'
        refine wpAnyT_one (i := 9) (by kernel_rfl) rfl rfl (fun K' hK => ?_)
        refine step_append_any rfl _ _ 27 rfl 0 46 i46 _ 2 16 Try.underlying27 hi46 h460 h461 h462 rfl (by decide) _ 0 [] rfl (World.ownsRow_nil _ _ _ _) (.slice al l.length cl) l.length (l.flatMap sgc) rfl (HL.out.below hyb.bel (Nat.le_refl _)) (st_one l) (by unfold maxLen; omega) (by omega) (Nat.zero_le _) ?_
        intro v2 x22 ho2 hgr2
        have hb2 : Below x21.heap.size x21 x22 := (Below.refl _ x21).grown hgr2 (Nat.le_refl _) (fun k e => by cases e)
        rw [Nat.zero_add, List.nil_append] at ho2
        obtain ⟨vc, cc, ex2⟩ := own_slice ho2
        subst ex2
        replace hyb := hyb.more hb2
        replace hc0 := blk_more hc0 hb2
        replace hg0 := own_below hg0 hb2 (Nat.le_refl _)
        replace hva := own_below hva hb2 (Nat.le_refl _)
        replace hvb := own_below hvb hb2 (Nat.le_refl _)
        replace hzd := blk_more hzd hb2
        have hvc := ho2
        clear hb2 ho2 hgr2
        refine hK.out _ _ (fun _ => by exact ⟨(cells_at hc0 0).trans rfl, (cells_at hc0 1).trans rfl⟩) ?_
        clear hK K'
        try simp only [Act.put, List.setIfInBounds_toArray]
        refine wpAnyT_one (i := 10) (by kernel_rfl) rfl rfl (fun K' hK => ?_)
        go_simp
        go_at_call 8
        refine (Run_any f damp mass dt md dr l g (.slice va md.length ca) (.slice vb dr.length cb) (.slice vc l.length cc) (.slice ga g.length gc) x22 (rowAt_of_own hva) (rowAt_of_own hvb) (rowAt_of_own hvc) (rowAt_of_own hg0)).mono ?_
        intro e x23 hro
        obtain ⟨r, ha, hn, hc, ta, tn, tc, code, hee, hres, hb2⟩ := hro.res
        subst hee
        replace hyb := hyb.more hb2
        replace hc0 := blk_more hc0 hb2
        replace hg0 := own_below hg0 hb2 (Nat.le_refl _)
        replace hzd := blk_more hzd hb2
        clear hb2 hro hva hvb hvc
        refine hK.out _ _ (fun _ => by exact ⟨(cells_at hc0 0).trans rfl, (cells_at hc0 1).trans rfl⟩) ?_
        clear hK K'
        refine wpAnyD_takeAt 11 (some 28) (v := ?_) rfl (by kernel_rfl) (by kernel_rfl) (by kernel_rfl) (by kernel_rfl) (by kernel_rfl) (fun _ _ _ h => h) (by exact ⟨(cells_at hc0 0).trans rfl, (cells_at hc0 1).trans rfl⟩) (fun o hop => ?_) ?_
        rotate_left
        · injection hop with hop
          subst hop
          refine ⟨rfl, fun W hW => ?_⟩
          obtain ⟨s0, s1⟩ := hW
          go_simp
          try rfl
        try simp only [Act.put, List.setIfInBounds_toArray, List.set_cons_zero, List.set_cons_succ]
        refine wpAnyD_takeAt 12 (some 40) (v := ?_) rfl (by kernel_rfl) (by kernel_rfl) (by kernel_rfl) (by kernel_rfl) (by kernel_rfl) (fun _ _ _ h => h) (by exact ⟨(cells_at hc0 0).trans rfl, (cells_at hc0 1).trans rfl⟩) (fun o hop => ?_) ?_
        rotate_left
        · injection hop with hop
          subst hop
          refine ⟨rfl, fun W hW => ?_⟩
          obtain ⟨s0, s1⟩ := hW
          go_simp
          try rfl
        try simp only [Act.put, List.setIfInBounds_toArray, List.set_cons_zero, List.set_cons_succ]
        refine wpAnyD_takeAt 13 (some 41) (v := ?_) rfl (by kernel_rfl) (by kernel_rfl) (by kernel_rfl) (by kernel_rfl) (by kernel_rfl) (fun _ _ _ h => h) (by exact ⟨(cells_at hc0 0).trans rfl, (cells_at hc0 1).trans rfl⟩) (fun o hop => ?_) ?_
        rotate_left
        · injection hop with hop
          subst hop
          refine ⟨rfl, fun W hW => ?_⟩
          obtain ⟨s0, s1⟩ := hW
          go_simp
          try rfl
        try simp only [Act.put, List.setIfInBounds_toArray, List.set_cons_zero, List.set_cons_succ]
        refine wpAnyD_takeAt 14 (some 42) (v := ?_) rfl (by kernel_rfl) (by kernel_rfl) (by kernel_rfl) (by kernel_rfl) (by kernel_rfl) (fun _ _ _ h => h) (by exact ⟨(cells_at hc0 0).trans rfl, (cells_at hc0 1).trans rfl⟩) (fun o hop => ?_) ?_
        rotate_left
        · injection hop with hop
          subst hop
          refine ⟨rfl, fun W hW => ?_⟩
          obtain ⟨s0, s1⟩ := hW
          go_simp
          try rfl
        try simp only [Act.put, List.setIfInBounds_toArray, List.set_cons_zero, List.set_cons_succ]
        have hsd : w.heap.size ≤ D := by have := HYS.out; omega
        have hnd : Y ≠ D := by have := HYS.out; omega
        have hncd : C ≠ D := by have := HYS.out; omega
        have z0 : x23.cell? ⟨D, 0, none⟩ = some (.float .f64 0) := (cells_at hzd 0).trans rfl
        have z1 : x23.cell? ⟨D, 1, none⟩ = some (.slice none 0 0) := (cells_at hzd 1).trans rfl
        have t0 := frozen_no hzd 0
        have t1 := frozen_no hzd 1
        refine wpAnyT_one (i := 16) (by kernel_rfl) rfl rfl (fun K' hK => ?_)
        go_simp
        have hfin : YB w ((x23.setCell ⟨D, 0, none⟩ (.float .f64 r)).setCell ⟨D, 1, none⟩ (.slice ha hn hc)) Y #[.float .f64 f, .slice ag g.length cg] ∧ ((x23.setCell ⟨D, 0, none⟩ (.float .f64 r)).setCell ⟨D, 1, none⟩ (.slice ha hn hc)).heap[D]? = some (.cells #[.float .f64 r, .slice ha hn hc] 25 (0, 0)) ∧ ResW f damp mass dt md dr l g ((x23.setCell ⟨D, 0, none⟩ (.float .f64 r)).setCell ⟨D, 1, none⟩ (.slice ha hn hc)) r (.slice ha hn hc) (.slice ta tn tc) code ∧ ((x23.setCell ⟨D, 0, none⟩ (.float .f64 r)).setCell ⟨D, 1, none⟩ (.slice ha hn hc)).heap[C]? = some (.cells #[.float .f64 f, .slice ga g.length gc] 25 (0, 0)) := by
          refine ⟨⟨?_, (hyb.bel.setCell (p := ⟨D, 0, none⟩) hsd _).setCell (p := ⟨D, 1, none⟩) hsd _⟩, (set_any (set_any hzd 0 _) 1 _).trans (congrArg (fun c => some (Obj.cells c 25 (0, 0))) (set2 _ _ _ _)), hres.keep ((keep_set hzd 0 _).trans (keep_set (set_any hzd 0 _) 1 _)), ?_⟩
          · rw [Below.heap_setCell _ _ _ Y hnd, Below.heap_setCell _ _ _ Y hnd]
            exact hyb.hY
          · rw [Below.heap_setCell _ _ _ C hncd, Below.heap_setCell _ _ _ C hncd]
            exact hc0
        refine hK.out _ _ (fun _ => by exact ⟨(cells_at hfin.2.2.2 0).trans rfl, (cells_at hfin.2.2.2 1).trans rfl⟩) ?_
        clear hK K' z0 z1 t0 t1 hsd hnd hncd
        refine wpAnyT_letter (fun W => YB w W Y #[.float .f64 f, .slice ag g.length cg] ∧ W.heap[D]? = some (.cells #[.float .f64 r, .slice ha hn hc] 25 (0, 0)) ∧ ResW f damp mass dt md dr l g W r (.slice ha hn hc) (.slice ta tn tc) code ∧ W.heap[C]? = some (.cells #[.float .f64 f, .slice ga g.length gc] 25 (0, 0))) hfin ?_
        clear hfin hyb hc0 hg0 hzd hres hdz
        rintro xf hfin
        refine wpAnyT_one (i := 17) (by kernel_rfl) rfl rfl (fun K' hK => ?_)
        go_simp
        refine hK.out _ _ (fun _ => by exact ⟨(cells_at hfin.2.2.2 0).trans rfl, (cells_at hfin.2.2.2 1).trans rfl⟩) ?_
        clear hK K'
        refine wpAnyT_one (i := 18) (by kernel_rfl) rfl rfl (fun K' hK => ?_)
        go_simp
        refine hK.out _ _ (fun h => absurd rfl h) ?_
        clear hK K'
        refine wpAnyT_done (by kernel_rfl) ?_ _
        have HFIN := hide' (show YB w xf Y #[.float .f64 f, .slice ag g.length cg] ∧ xf.heap[D]? = some (.cells #[.float .f64 r, .slice ha hn hc] 25 (0, 0)) ∧ ResW f damp mass dt md dr l g xf r (.slice ha hn hc) (.slice ta tn tc) code from ⟨hfin.1, hfin.2.1, hfin.2.2.1⟩)
        clear hfin
        go_wp2_with fail
        go_meet
        case rel => exact ⟨D, r, ha, hn, hc, ta, tn, tc, code, rfl, rfl, rfl, HFIN⟩
    case rest =>
      obtain ⟨D, r, ha, hn, hc, ta, tn, tc, code, rfl, rfl, rfl, HF⟩ := hcut
      have hbd := HF.out.1.bel
      have y0 := HF.out.1.c.1
      have y1 := HF.out.1.c.2
      have HRO := hide' (RunOf_any f damp mass dt md dr l g (.slice am md.length cm) (.slice ad dr.length cd) (.slice al l.length cl) (.slice ag g.length cg) wc (HM.out.below hbd (Nat.le_refl _)) (HD.out.below hbd (Nat.le_refl _)) (HL.out.below hbd (Nat.le_refl _)) (HGN.out.below hbd (Nat.le_refl _)))
      clear hbd
      go_wp2_with (go_at_call 10; refine HRO.out.mono ?_; refine Still.go ?_)
      unfold Still
      intro e w9 hro
      obtain ⟨r2, ha2, hn2, hc2, ta2, tn2, tc2, code2, hee, hres2, hb9⟩ := hro.res
      subst hee
      have hres1 := HF.out.2.2.keep (KeepE.below hb9 (Nat.le_refl _))
      obtain ⟨hcode, hrr, ⟨n1, la, lb, q1, q2, q3, q4⟩, ⟨n2, gl, p1, p2, p3⟩⟩ := hres1.same hres2
      subst hcode
      have HB9 : Hid (Below w.heap.size w w9) := HF.out.1.bel.trans (hb9.mono HF.out.1.bel.size)
      have hD9 := blk_more HF.out.2.1 hb9
      have x0 : ∀ o, (w9.alloc o).cell? ⟨D, 0, none⟩ = some (.float .f64 r) := later ((cells_at hD9 0).trans rfl)
      have x1 : ∀ o, (w9.alloc o).cell? ⟨D, 1, none⟩ = some (.slice ha hn hc) := later ((cells_at hD9 1).trans rfl)
      have HSF : Hid (∀ W, Below w9.heap.size w9 W → Calls Try.prog 11 #[.slice ta tn tc, .slice ta2 tn2 tc2] W fun e w' => e = .returned (.bool true) ∧ Below W.heap.size W w') := fun W hb => sameFloats_same la lb n1 _ _ W (q1.below hb (Nat.le_refl _)) (q2.below hb (Nat.le_refl _)) q3 q4
      have HSS : Hid (∀ W, Below w9.heap.size w9 W → Calls Try.prog 13 #[.slice ha hn hc, .slice ha2 hn2 hc2] W fun e w' => e = .returned (.bool true) ∧ Below W.heap.size W w') := fun W hb => sameSides_same gl n2 _ _ W (p1.below hb (Nat.le_refl _)) (p2.below hb (Nat.le_refl _)) p3
      have HSN : Hid (∀ W, Calls Try.prog 12 #[.float .f64 r, .float .f64 r2] W fun e w' => e = .returned (.bool true) ∧ w' = W) := fun W => SameFloat_any r r2 hrr W
      clear hro hres2 hres1 hb9 hrr q1 q2 q3 q4 p1 p2 p3 HRO y0 y1 HF hD9
      go_wp2_with fail
      have hE := alloc_new w9 (.cells #[.float .f64 r2, .slice ha2 hn2 hc2] 25)
      have hbE := below_al w9 (.cells #[.float .f64 r2, .slice ha2 hn2 hc2] 25)
      have u0 := x0 (.cells #[.float .f64 r2, .slice ha2 hn2 hc2] 25)
      have u1 := x1 (.cells #[.float .f64 r2, .slice ha2 hn2 hc2] 25)
      obtain ⟨E, hEq⟩ : ∃ E, E = w9.heap.size := ⟨_, rfl⟩
      obtain ⟨wA, hwA⟩ : ∃ W, W = w9.alloc (.cells #[.float .f64 r2, .slice ha2 hn2 hc2] 25) := ⟨_, rfl⟩
      rw [← hwA] at hE hbE u0 u1 ⊢
      rw [← hEq] at hE
      rw [show (Value.pointer (some { block := w9.heap.size, off := 0 })) = Value.pointer (some { block := E, off := 0 }) by rw [hEq]]
      have v0 : wA.cell? ⟨E, 0, none⟩ = some (.float .f64 r2) := (cells_at hE 0).trans rfl
      have v1 : wA.cell? ⟨E, 1, none⟩ = some (.slice ha2 hn2 hc2) := (cells_at hE 1).trans rfl
      have HBA := hide' hbE
      clear hE hbE hEq hwA x0 x1
      refine (HSF.out wA HBA.out).mono ?_
      rintro e w10 ⟨rfl, hb10⟩
      have HBB : Hid (Below w9.heap.size w9 w10) := HBA.out.trans (hb10.mono HBA.out.size)
      have u2 := up_cell hb10 u0
      have u3 := up_cell hb10 u1
      have v2 := up_cell hb10 v0
      have v3 := up_cell hb10 v1
      clear hb10 u0 u1 v0 v1 HBA
      go_wp2_with fail
      refine (HSN.out w10).mono ?_
      rintro e w11 ⟨rfl, rfl⟩
      go_wp2_with fail
      refine (HSS.out w11 HBB.out).mono ?_
      rintro e w12 ⟨rfl, hb12⟩
      have HBC : Hid (Below w.heap.size w w12) := (HB9.out.trans (HBB.out.mono HB9.out.size)).trans (hb12.mono (Nat.le_trans HB9.out.size HBB.out.size))
      clear hb12 u2 u3 v2 v3
      go_wp2
      go_ret
      exact ⟨rfl, HBC.out⟩

end Go.Proofs.Ytligmokepafnbaj
