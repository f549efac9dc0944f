/- Lakes of raw numbers. -/
import Derived.Test.YtmbgjmkndhjilakWc
namespace Go.Proofs.Ytmbgjmkndhjilak
open Go.RowKit Go.Shelf

structure RawL where
  least : Int
  start : Int
  most : Int
  turb : Int
  worth : Int
def RawL.cells (d : RawL) : List Value := [.int .i64 d.least, .int .i64 d.start, .int .i64 d.most, .int .i64 d.turb, .int .i64 d.worth]
theorem rawl_len (k : RawL) : k.cells.length = 5 := rfl
theorem Try.info38' : (Try.prog.info? 38).map (fun i => (i.zero, i.size, i.bytes)) = some (some (.agg #[.int .i64 0, .int .i64 0, .int .i64 0, .int .i64 0, .int .i64 0]), 5, 40) := by kernel_rfl
theorem set5 (b0 b1 b2 b3 b4 x0 x1 x2 x3 x4 : Value) : ((((#[b0, b1, b2, b3, b4].setIfInBounds 0 x0).setIfInBounds 1 x1).setIfInBounds 2 x2).setIfInBounds 3 x3).setIfInBounds 4 x4 = #[x0, x1, x2, x3, x4] := by simp only [List.setIfInBounds_toArray, List.set_cons_zero, List.set_cons_succ]
theorem set_five {w : World} {A t : Nat} {c0 c1 c2 c3 c4 : Value} (h : w.heap[A]? = some (.cells #[c0, c1, c2, c3, c4] t (0, 0))) (x0 x1 x2 x3 x4 : Value) : (((((w.setCell ⟨A, 0, none⟩ x0).setCell ⟨A, 1, none⟩ x1).setCell ⟨A, 2, none⟩ x2).setCell ⟨A, 3, none⟩ x3).setCell ⟨A, 4, none⟩ x4).heap[A]? = some (.cells #[x0, x1, x2, x3, x4] t (0, 0)) := by
  have h1 := set_any (set_any (set_any (set_any (set_any h 0 x0) 1 x1) 2 x2) 3 x3) 4 x4
  rw [set5] at h1
  exact h1
theorem lake_one (k : LakeM) : ∀ u ∈ k.cells, u.oneCell' = true := fun u hu => by
  unfold LakeM.cells at hu
  simp at hu
  rcases hu with rfl | rfl | rfl | rfl | rfl <;> rfl
theorem flat_snoc5 (l : List LakeM) (k : LakeM) : (l ++ [k]).flatMap LakeM.cells = l.flatMap LakeM.cells ++ k.cells := by simp
set_option maxRecDepth 100000 in
set_option maxHeartbeats 4000000 in
theorem lakesFrom_any (raw : List RawL) (v : Value) (w : World) (hx : RowAt w v raw.length 5 (raw.flatMap RawL.cells)) (hI : ∀ d ∈ raw, I6 d.least ∧ I6 d.start ∧ I6 d.most ∧ I6 d.turb ∧ I6 d.worth) (_hrl : raw.length ≤ 9000000000000000000) :
    Calls Try.prog 7 #[v] w fun e w' => ∃ (ls : List LakeM) (v' : Value), e = .returned v' ∧ ls.length ≤ 2 ∧ (∀ k ∈ ls, LakeOk k) ∧ w'.ownsRow w.heap.size 38 5 v' ls.length (ls.flatMap LakeM.cells) ∧ Below w.heap.size w w' := by
  obtain ⟨i38, hi38, h380, h381, h382⟩ := info_parts Try.info38'
  have HX := hide' hx
  have HI := hide' hI
  obtain ⟨ar, cr, rfl⟩ := rowAt_slice hx
  clear hx hI
  go_enter Try.func7, Try.ntmps7
  go_wp2_with fail
  go_loopw [3, 4] (fun lv i wr => ∃ (k : Nat) (ls : List LakeM), i = .int .i64 k ∧ k ≤ raw.length ∧ k ≤ 2 ∧ Hid (ls.length = k ∧ ∀ l ∈ ls, LakeOk l) ∧ Hid (wr.ownsRow w.heap.size 38 5 lv ls.length (ls.flatMap LakeM.cells) ∧ Below w.heap.size w wr)) (fun _ i _ => raw.length - (intOf i).toNat)
  case atStart => exact ⟨0, [], rfl, Nat.zero_le _, Nat.zero_le _, ⟨rfl, fun l hl => by cases hl⟩, World.ownsRow_nil _ _ _ _, Below.refl _ w⟩
  case round =>
    obtain ⟨k, ls, rfl, hk, hk2, HT, HW⟩ := hrel
    by_cases hlt : k < raw.length ∧ k < 2
    · obtain ⟨hkr, hk3⟩ := hlt
      obtain ⟨bt, ot, ct, ex, _, hct⟩ := row_elem rawl_len HX.out k hkr (by decide)
      cases ex
      have ii := HI.out _ (List.getElem_mem hkr)
      obtain ⟨x, hx⟩ : ∃ x, x = raw[k] := ⟨_, rfl⟩
      rw [← hx] at hct ii
      obtain ⟨x0, x1, x2, x3, x4⟩ := x
      have c0 : wr.cell? ⟨bt, ot + k * 5, none⟩ = some (.int .i64 x0) := up_cell HW.out.2 (hct 0 _ rfl)
      have c1 : wr.cell? ⟨bt, ot + k * 5 + 1, none⟩ = some (.int .i64 x1) := up_cell HW.out.2 (hct 1 _ rfl)
      have c2 : wr.cell? ⟨bt, ot + k * 5 + 2, none⟩ = some (.int .i64 x2) := up_cell HW.out.2 (hct 2 _ rfl)
      have c3 : wr.cell? ⟨bt, ot + k * 5 + 3, none⟩ = some (.int .i64 x3) := up_cell HW.out.2 (hct 3 _ rfl)
      have c4 : wr.cell? ⟨bt, ot + k * 5 + 4, none⟩ = some (.int .i64 x4) := up_cell HW.out.2 (hct 4 _ rfl)
      obtain ⟨pa, ha, hp0⟩ := picked_is x0 4 ii.1 (by decide) (by decide)
      obtain ⟨ps, hs, hp1⟩ := picked_is x1 5 ii.2.1 (by decide) (by decide)
      obtain ⟨pm, hm, hp2⟩ := picked_is x2 5 ii.2.2.1 (by decide) (by decide)
      obtain ⟨pt, ht, hp3⟩ := picked_is x3 4 ii.2.2.2.1 (by decide) (by decide)
      obtain ⟨pw, hw, hp4⟩ := picked_is x4 10 ii.2.2.2.2 (by decide) (by decide)
      have HP0 := hide' hp0
      have HP1 := hide' hp1
      have HP2 := hide' hp2
      have HP3 := hide' hp3
      have HP4 := hide' hp4
      clear hp0 hp1 hp2 hp3 hp4 hct hx ii
      have hki : ((k : Int) < 2) := by omega
      have hwa : IntKind.i64.wrap ((pa : Int) + (ps : Int)) = (pa : Int) + (ps : Int) := Go.IntWalk.i64_in _ (by omega)
      have hwb : IntKind.i64.wrap ((pa : Int) + (ps : Int) + (pm : Int)) = (pa : Int) + (ps : Int) + (pm : Int) := Go.IntWalk.i64_in _ (by omega)
      go_upto_region 6 with fail
      have hqx := alloc_new wr (.cells #[.int .i64 x0, .int .i64 x1, .int .i64 x2, .int .i64 x3, .int .i64 x4] 50)
      have hbx := below_al wr (.cells #[.int .i64 x0, .int .i64 x1, .int .i64 x2, .int .i64 x3, .int .i64 x4] 50)
      obtain ⟨z, hz⟩ : ∃ x, x = wr.alloc (.cells #[.int .i64 x0, .int .i64 x1, .int .i64 x2, .int .i64 x3, .int .i64 x4] 50) := ⟨_, rfl⟩
      rw [← hz] at hqx hbx ⊢
      obtain ⟨X, hX⟩ : ∃ x, x = wr.heap.size := ⟨_, rfl⟩
      rw [← hX] at hqx
      rw [show (Value.pointer (some { block := wr.heap.size, off := 0 })) = Value.pointer (some { block := X, off := 0 }) by rw [hX]]
      have HZ : Hid (z.ownsRow w.heap.size 38 5 u3 ls.length (ls.flatMap LakeM.cells) ∧ Below w.heap.size w z) := ⟨own_below HW.out.1 hbx (Nat.le_refl _), HW.out.2.trans (hbx.mono HW.out.2.size)⟩
      have d0 : Hid (z.cell? ⟨X, 0, none⟩ = some (.int .i64 x0)) := (cells_at hqx 0).trans rfl
      have d1 : Hid (z.cell? ⟨X, 1, none⟩ = some (.int .i64 x1)) := (cells_at hqx 1).trans rfl
      have d2 : Hid (z.cell? ⟨X, 2, none⟩ = some (.int .i64 x2)) := (cells_at hqx 2).trans rfl
      have d3 : Hid (z.cell? ⟨X, 3, none⟩ = some (.int .i64 x3)) := (cells_at hqx 3).trans rfl
      have d4 : Hid (z.cell? ⟨X, 4, none⟩ = some (.int .i64 x4)) := (cells_at hqx 4).trans rfl
      clear hqx hbx hz hX HW c0 c1 c2 c3 c4
      go_cut [6] from 21 to 30 (fun p wc => ∃ K, p = .pointer (some ⟨K, 0, none⟩) ∧ Hid (Below z.heap.size z wc ∧ wc.heap[K]? = some (.cells #[.int .i64 (pa : Int), .int .i64 0, .int .i64 0, .int .i64 (pt : Int), .int .i64 (pw : Int)] 38 (0, 0)) ∧ z.heap.size ≤ K))
      case first =>
          refine wp_region_tail (fun W => W.cell? ⟨X, 0, none⟩ = some (.int .i64 x0) ∧ W.cell? ⟨X, 3, none⟩ = some (.int .i64 x3) ∧ W.cell? ⟨X, 4, none⟩ = some (.int .i64 x4)) 11 (by kernel_rfl) ?_
          refine wpAnyT_letter (fun W => Below z.heap.size z W) (Below.refl _ z).drew ?_
          rintro y0 hbz
          refine wpAnyD_takeAt 0 (some 21) (v := ?_) rfl (by kernel_rfl) (by kernel_rfl) (by kernel_rfl) (by kernel_rfl) (by kernel_rfl) (fun _ _ _ h => h) (by exact ⟨up_cell hbz d0.out, up_cell hbz d3.out, up_cell hbz d4.out⟩) (fun o hop => ?_) ?_
          rotate_left
          · injection hop with hop
            subst hop
            refine ⟨rfl, fun W hW => ?_⟩
            obtain ⟨s0, s1, s2⟩ := hW
            go_simp
            first
            | rfl
            | (constructor <;> rfl)
            | rw [if_neg (by omega)]
          try simp only [Act.put, List.setIfInBounds_toArray, List.set_cons_zero, List.set_cons_succ]
          refine wpAnyD_takeAt 1 (some 22) (v := ?_) rfl (by kernel_rfl) (by kernel_rfl) (by kernel_rfl) (by kernel_rfl) (by kernel_rfl) (fun _ _ _ h => h) (by exact ⟨up_cell hbz d0.out, up_cell hbz d3.out, up_cell hbz d4.out⟩) (fun o hop => ?_) ?_
          rotate_left
          · injection hop with hop
            subst hop
            refine ⟨rfl, fun W hW => ?_⟩
            obtain ⟨s0, s1, s2⟩ := hW
            go_simp
            first
            | rfl
            | (constructor <;> rfl)
            | rw [if_neg (by omega)]
          try simp only [Act.put, List.setIfInBounds_toArray, List.set_cons_zero, List.set_cons_succ]
          refine wpAnyD_takeAt 3 (some 24) (v := ?_) rfl (by kernel_rfl) (by kernel_rfl) (by kernel_rfl) (by kernel_rfl) (by kernel_rfl) (fun _ _ _ h => h) (by exact ⟨up_cell hbz d0.out, up_cell hbz d3.out, up_cell hbz d4.out⟩) (fun o hop => ?_) ?_
          rotate_left
          · injection hop with hop
            subst hop
            refine ⟨rfl, fun W hW => ?_⟩
            obtain ⟨s0, s1, s2⟩ := hW
            go_simp
            first
            | rfl
            | (constructor <;> rfl)
            | rw [if_neg (by omega)]
          try simp only [Act.put, List.setIfInBounds_toArray, List.set_cons_zero, List.set_cons_succ]
          refine wpAnyD_takeAt 4 (some 25) (v := ?_) rfl (by kernel_rfl) (by kernel_rfl) (by kernel_rfl) (by kernel_rfl) (by kernel_rfl) (fun _ _ _ h => h) (by exact ⟨up_cell hbz d0.out, up_cell hbz d3.out, up_cell hbz d4.out⟩) (fun o hop => ?_) ?_
          rotate_left
          · injection hop with hop
            subst hop
            refine ⟨rfl, fun W hW => ?_⟩
            obtain ⟨s0, s1, s2⟩ := hW
            go_simp
            first
            | rfl
            | (constructor <;> rfl)
            | rw [if_neg (by omega)]
          try simp only [Act.put, List.setIfInBounds_toArray, List.set_cons_zero, List.set_cons_succ]
          refine wpAnyD_takeAt 6 (some 27) (v := ?_) rfl (by kernel_rfl) (by kernel_rfl) (by kernel_rfl) (by kernel_rfl) (by kernel_rfl) (fun _ _ _ h => h) (by exact ⟨up_cell hbz d0.out, up_cell hbz d3.out, up_cell hbz d4.out⟩) (fun o hop => ?_) ?_
          rotate_left
          · injection hop with hop
            subst hop
            refine ⟨rfl, fun W hW => ?_⟩
            obtain ⟨s0, s1, s2⟩ := hW
            go_simp
            first
            | rfl
            | (constructor <;> rfl)
            | rw [if_neg (by omega)]
          try simp only [Act.put, List.setIfInBounds_toArray, List.set_cons_zero, List.set_cons_succ]
          refine wpAnyD_takeAt 7 (some 28) (v := ?_) rfl (by kernel_rfl) (by kernel_rfl) (by kernel_rfl) (by kernel_rfl) (by kernel_rfl) (fun _ _ _ h => h) (by exact ⟨up_cell hbz d0.out, up_cell hbz d3.out, up_cell hbz d4.out⟩) (fun o hop => ?_) ?_
          rotate_left
          · injection hop with hop
            subst hop
            refine ⟨rfl, fun W hW => ?_⟩
            obtain ⟨s0, s1, s2⟩ := hW
            go_simp
            first
            | rfl
            | (constructor <;> rfl)
            | rw [if_neg (by omega)]
          try simp only [Act.put, List.setIfInBounds_toArray, List.set_cons_zero, List.set_cons_succ]
          refine wpAnyT_two (i := 2) (j := 10) (by kernel_rfl) rfl rfl rfl rfl (fun K' hK => ?_) (fun K' hK => ?_)
          · go_simp
            go_at_call 8
            refine (HP0.out _).mono ?_
            rintro e yy ⟨rfl, hyy⟩
            obtain rfl := hyy.symm
            clear hyy
            refine hK.out _ _ (fun _ => by exact ⟨up_cell hbz d0.out, up_cell hbz d3.out, up_cell hbz d4.out⟩) ?_
            clear hK K'
            refine wpAnyT_two (i := 5) (j := 10) (by kernel_rfl) rfl rfl rfl rfl (fun K' hK => ?_) (fun K' hK => ?_)
            · go_simp
              go_at_call 8
              refine (HP3.out _).mono ?_
              rintro e yy ⟨rfl, hyy⟩
              obtain rfl := hyy.symm
              clear hyy
              refine hK.out _ _ (fun _ => by exact ⟨up_cell hbz d0.out, up_cell hbz d3.out, up_cell hbz d4.out⟩) ?_
              clear hK K'
              refine wpAnyT_two (i := 8) (j := 10) (by kernel_rfl) rfl rfl rfl rfl (fun K' hK => ?_) (fun K' hK => ?_)
              · go_simp
                go_at_call 8
                refine (HP4.out _).mono ?_
                rintro e yy ⟨rfl, hyy⟩
                obtain rfl := hyy.symm
                clear hyy
                refine hK.out _ _ (fun _ => by exact ⟨up_cell hbz d0.out, up_cell hbz d3.out, up_cell hbz d4.out⟩) ?_
                clear hK K'
                refine wpAnyD_takeAt 9 (some 30) (v := ?_) rfl (by kernel_rfl) (by kernel_rfl) (by kernel_rfl) (by kernel_rfl) (by kernel_rfl) (fun _ _ _ h => h) (by exact ⟨up_cell hbz d0.out, up_cell hbz d3.out, up_cell hbz d4.out⟩) (fun o hop => ?_) ?_
                rotate_left
                · injection hop with hop
                  subst hop
                  refine ⟨rfl, fun W hW => ?_⟩
                  obtain ⟨s0, s1, s2⟩ := hW
                  go_simp
                  first
                  | rfl
                  | (constructor <;> rfl)
                  | rw [if_neg (by omega)]
                try simp only [Act.put, List.setIfInBounds_toArray, List.set_cons_zero, List.set_cons_succ]
                refine wpAnyT_one (i := 10) (by kernel_rfl) rfl rfl (fun K' hK => ?_)
                go_simp
                refine hK.out _ _ (fun _ => by exact ⟨up_cell (hbz.trans ((below_al _ _).mono hbz.size)) d0.out, up_cell (hbz.trans ((below_al _ _).mono hbz.size)) d3.out, up_cell (hbz.trans ((below_al _ _).mono hbz.size)) d4.out⟩) ?_
                clear hK K'
                obtain ⟨D, hD⟩ : ∃ x, x = y0.heap.size := ⟨_, rfl⟩
                rw [← hD]
                refine wpAnyT_letter (fun W => Below z.heap.size z W ∧ W.heap[D]? = some (.cells #[.int .i64 0, .int .i64 0, .int .i64 0, .int .i64 0, .int .i64 0] 38 (0, 0)) ∧ z.heap.size ≤ D) ⟨hbz.trans ((below_al _ _).mono hbz.size), (by rw [hD]; exact alloc_new _ _), (by rw [hD]; exact hbz.size)⟩ ?_
                clear hbz hD y0
                rintro y0 ⟨hbz, hzd, hsd⟩
                have s0 : y0.cell? ⟨D, 0, none⟩ = some (.int .i64 0) := (cells_at hzd 0).trans rfl
                have t0 := frozen_no hzd 0
                have s1 : y0.cell? ⟨D, 1, none⟩ = some (.int .i64 0) := (cells_at hzd 1).trans rfl
                have t1 := frozen_no hzd 1
                have s2 : y0.cell? ⟨D, 2, none⟩ = some (.int .i64 0) := (cells_at hzd 2).trans rfl
                have t2 := frozen_no hzd 2
                have s3 : y0.cell? ⟨D, 3, none⟩ = some (.int .i64 0) := (cells_at hzd 3).trans rfl
                have t3 := frozen_no hzd 3
                have s4 : y0.cell? ⟨D, 4, none⟩ = some (.int .i64 0) := (cells_at hzd 4).trans rfl
                have t4 := frozen_no hzd 4
                have hfin : Below z.heap.size z (((((y0.setCell ⟨D, 0, none⟩ (.int .i64 (pa : Int))).setCell ⟨D, 1, none⟩ (.int .i64 0)).setCell ⟨D, 2, none⟩ (.int .i64 0)).setCell ⟨D, 3, none⟩ (.int .i64 (pt : Int))).setCell ⟨D, 4, none⟩ (.int .i64 (pw : Int))) ∧ (((((y0.setCell ⟨D, 0, none⟩ (.int .i64 (pa : Int))).setCell ⟨D, 1, none⟩ (.int .i64 0)).setCell ⟨D, 2, none⟩ (.int .i64 0)).setCell ⟨D, 3, none⟩ (.int .i64 (pt : Int))).setCell ⟨D, 4, none⟩ (.int .i64 (pw : Int))).heap[D]? = some (.cells #[.int .i64 (pa : Int), .int .i64 0, .int .i64 0, .int .i64 (pt : Int), .int .i64 (pw : Int)] 38 (0, 0)) := ⟨((((hbz.setCell (p := ⟨D, 0, none⟩) hsd _).setCell (p := ⟨D, 1, none⟩) hsd _).setCell (p := ⟨D, 2, none⟩) hsd _).setCell (p := ⟨D, 3, none⟩) hsd _).setCell (p := ⟨D, 4, none⟩) hsd _, set_five hzd _ _ _ _ _⟩
                refine wpAnyT_one (i := 11) (by kernel_rfl) rfl rfl (fun K' hK => ?_)
                go_simp
                refine hK.out _ _ (fun h => absurd rfl h) ?_
                clear hK K' s0 s1 s2 s3 s4 t0 t1 t2 t3 t4
                refine wpAnyT_done (by kernel_rfl) ?_ _
                have HFIN := hide' hfin
                have HSD := hide' hsd
                clear hfin hbz hzd hsd
                go_wp2_with fail
                go_meet
                case rel => exact ⟨D, rfl, HFIN.out.1, HFIN.out.2, HSD.out⟩
              · go_simp
                refine hK.out _ _ (fun _ => by exact ⟨up_cell (hbz.trans ((below_al _ _).mono hbz.size)) d0.out, up_cell (hbz.trans ((below_al _ _).mono hbz.size)) d3.out, up_cell (hbz.trans ((below_al _ _).mono hbz.size)) d4.out⟩) ?_
                clear hK K'
                obtain ⟨D, hD⟩ : ∃ x, x = y0.heap.size := ⟨_, rfl⟩
                rw [← hD]
                refine wpAnyT_letter (fun W => Below z.heap.size z W ∧ W.heap[D]? = some (.cells #[.int .i64 0, .int .i64 0, .int .i64 0, .int .i64 0, .int .i64 0] 38 (0, 0)) ∧ z.heap.size ≤ D) ⟨hbz.trans ((below_al _ _).mono hbz.size), (by rw [hD]; exact alloc_new _ _), (by rw [hD]; exact hbz.size)⟩ ?_
                clear hbz hD y0
                rintro y0 ⟨hbz, hzd, hsd⟩
                refine wpAnyT_one (i := 8) (by kernel_rfl) rfl rfl (fun K' hK => ?_)
                go_simp
                go_at_call 8
                refine (HP4.out _).mono ?_
                rintro e yy ⟨rfl, hyy⟩
                obtain rfl := hyy.symm
                clear hyy
                refine hK.out _ _ (fun _ => by exact ⟨up_cell hbz d0.out, up_cell hbz d3.out, up_cell hbz d4.out⟩) ?_
                clear hK K'
                refine wpAnyD_takeAt 9 (some 30) (v := ?_) rfl (by kernel_rfl) (by kernel_rfl) (by kernel_rfl) (by kernel_rfl) (by kernel_rfl) (fun _ _ _ h => h) (by exact ⟨up_cell hbz d0.out, up_cell hbz d3.out, up_cell hbz d4.out⟩) (fun o hop => ?_) ?_
                rotate_left
                · injection hop with hop
                  subst hop
                  refine ⟨rfl, fun W hW => ?_⟩
                  obtain ⟨s0, s1, s2⟩ := hW
                  go_simp
                  first
                  | rfl
                  | (constructor <;> rfl)
                  | rw [if_neg (by omega)]
                try simp only [Act.put, List.setIfInBounds_toArray, List.set_cons_zero, List.set_cons_succ]
                have s0 : y0.cell? ⟨D, 0, none⟩ = some (.int .i64 0) := (cells_at hzd 0).trans rfl
                have t0 := frozen_no hzd 0
                have s1 : y0.cell? ⟨D, 1, none⟩ = some (.int .i64 0) := (cells_at hzd 1).trans rfl
                have t1 := frozen_no hzd 1
                have s2 : y0.cell? ⟨D, 2, none⟩ = some (.int .i64 0) := (cells_at hzd 2).trans rfl
                have t2 := frozen_no hzd 2
                have s3 : y0.cell? ⟨D, 3, none⟩ = some (.int .i64 0) := (cells_at hzd 3).trans rfl
                have t3 := frozen_no hzd 3
                have s4 : y0.cell? ⟨D, 4, none⟩ = some (.int .i64 0) := (cells_at hzd 4).trans rfl
                have t4 := frozen_no hzd 4
                have hfin : Below z.heap.size z (((((y0.setCell ⟨D, 0, none⟩ (.int .i64 (pa : Int))).setCell ⟨D, 1, none⟩ (.int .i64 0)).setCell ⟨D, 2, none⟩ (.int .i64 0)).setCell ⟨D, 3, none⟩ (.int .i64 (pt : Int))).setCell ⟨D, 4, none⟩ (.int .i64 (pw : Int))) ∧ (((((y0.setCell ⟨D, 0, none⟩ (.int .i64 (pa : Int))).setCell ⟨D, 1, none⟩ (.int .i64 0)).setCell ⟨D, 2, none⟩ (.int .i64 0)).setCell ⟨D, 3, none⟩ (.int .i64 (pt : Int))).setCell ⟨D, 4, none⟩ (.int .i64 (pw : Int))).heap[D]? = some (.cells #[.int .i64 (pa : Int), .int .i64 0, .int .i64 0, .int .i64 (pt : Int), .int .i64 (pw : Int)] 38 (0, 0)) := ⟨((((hbz.setCell (p := ⟨D, 0, none⟩) hsd _).setCell (p := ⟨D, 1, none⟩) hsd _).setCell (p := ⟨D, 2, none⟩) hsd _).setCell (p := ⟨D, 3, none⟩) hsd _).setCell (p := ⟨D, 4, none⟩) hsd _, set_five hzd _ _ _ _ _⟩
                refine wpAnyT_one (i := 11) (by kernel_rfl) rfl rfl (fun K' hK => ?_)
                go_simp
                refine hK.out _ _ (fun h => absurd rfl h) ?_
                clear hK K' s0 s1 s2 s3 s4 t0 t1 t2 t3 t4
                refine wpAnyT_done (by kernel_rfl) ?_ _
                have HFIN := hide' hfin
                have HSD := hide' hsd
                clear hfin hbz hzd hsd
                go_wp2_with fail
                go_meet
                case rel => exact ⟨D, rfl, HFIN.out.1, HFIN.out.2, HSD.out⟩
            · go_simp
              refine hK.out _ _ (fun _ => by exact ⟨up_cell (hbz.trans ((below_al _ _).mono hbz.size)) d0.out, up_cell (hbz.trans ((below_al _ _).mono hbz.size)) d3.out, up_cell (hbz.trans ((below_al _ _).mono hbz.size)) d4.out⟩) ?_
              clear hK K'
              obtain ⟨D, hD⟩ : ∃ x, x = y0.heap.size := ⟨_, rfl⟩
              rw [← hD]
              refine wpAnyT_letter (fun W => Below z.heap.size z W ∧ W.heap[D]? = some (.cells #[.int .i64 0, .int .i64 0, .int .i64 0, .int .i64 0, .int .i64 0] 38 (0, 0)) ∧ z.heap.size ≤ D) ⟨hbz.trans ((below_al _ _).mono hbz.size), (by rw [hD]; exact alloc_new _ _), (by rw [hD]; exact hbz.size)⟩ ?_
              clear hbz hD y0
              rintro y0 ⟨hbz, hzd, hsd⟩
              refine wpAnyT_one (i := 5) (by kernel_rfl) rfl rfl (fun K' hK => ?_)
              go_simp
              go_at_call 8
              refine (HP3.out _).mono ?_
              rintro e yy ⟨rfl, hyy⟩
              obtain rfl := hyy.symm
              clear hyy
              refine hK.out _ _ (fun _ => by exact ⟨up_cell hbz d0.out, up_cell hbz d3.out, up_cell hbz d4.out⟩) ?_
              clear hK K'
              refine wpAnyT_one (i := 8) (by kernel_rfl) rfl rfl (fun K' hK => ?_)
              go_simp
              go_at_call 8
              refine (HP4.out _).mono ?_
              rintro e yy ⟨rfl, hyy⟩
              obtain rfl := hyy.symm
              clear hyy
              refine hK.out _ _ (fun _ => by exact ⟨up_cell hbz d0.out, up_cell hbz d3.out, up_cell hbz d4.out⟩) ?_
              clear hK K'
              refine wpAnyD_takeAt 9 (some 30) (v := ?_) rfl (by kernel_rfl) (by kernel_rfl) (by kernel_rfl) (by kernel_rfl) (by kernel_rfl) (fun _ _ _ h => h) (by exact ⟨up_cell hbz d0.out, up_cell hbz d3.out, up_cell hbz d4.out⟩) (fun o hop => ?_) ?_
              rotate_left
              · injection hop with hop
                subst hop
                refine ⟨rfl, fun W hW => ?_⟩
                obtain ⟨s0, s1, s2⟩ := hW
                go_simp
                first
                | rfl
                | (constructor <;> rfl)
                | rw [if_neg (by omega)]
              try simp only [Act.put, List.setIfInBounds_toArray, List.set_cons_zero, List.set_cons_succ]
              have s0 : y0.cell? ⟨D, 0, none⟩ = some (.int .i64 0) := (cells_at hzd 0).trans rfl
              have t0 := frozen_no hzd 0
              have s1 : y0.cell? ⟨D, 1, none⟩ = some (.int .i64 0) := (cells_at hzd 1).trans rfl
              have t1 := frozen_no hzd 1
              have s2 : y0.cell? ⟨D, 2, none⟩ = some (.int .i64 0) := (cells_at hzd 2).trans rfl
              have t2 := frozen_no hzd 2
              have s3 : y0.cell? ⟨D, 3, none⟩ = some (.int .i64 0) := (cells_at hzd 3).trans rfl
              have t3 := frozen_no hzd 3
              have s4 : y0.cell? ⟨D, 4, none⟩ = some (.int .i64 0) := (cells_at hzd 4).trans rfl
              have t4 := frozen_no hzd 4
              have hfin : Below z.heap.size z (((((y0.setCell ⟨D, 0, none⟩ (.int .i64 (pa : Int))).setCell ⟨D, 1, none⟩ (.int .i64 0)).setCell ⟨D, 2, none⟩ (.int .i64 0)).setCell ⟨D, 3, none⟩ (.int .i64 (pt : Int))).setCell ⟨D, 4, none⟩ (.int .i64 (pw : Int))) ∧ (((((y0.setCell ⟨D, 0, none⟩ (.int .i64 (pa : Int))).setCell ⟨D, 1, none⟩ (.int .i64 0)).setCell ⟨D, 2, none⟩ (.int .i64 0)).setCell ⟨D, 3, none⟩ (.int .i64 (pt : Int))).setCell ⟨D, 4, none⟩ (.int .i64 (pw : Int))).heap[D]? = some (.cells #[.int .i64 (pa : Int), .int .i64 0, .int .i64 0, .int .i64 (pt : Int), .int .i64 (pw : Int)] 38 (0, 0)) := ⟨((((hbz.setCell (p := ⟨D, 0, none⟩) hsd _).setCell (p := ⟨D, 1, none⟩) hsd _).setCell (p := ⟨D, 2, none⟩) hsd _).setCell (p := ⟨D, 3, none⟩) hsd _).setCell (p := ⟨D, 4, none⟩) hsd _, set_five hzd _ _ _ _ _⟩
              refine wpAnyT_one (i := 11) (by kernel_rfl) rfl rfl (fun K' hK => ?_)
              go_simp
              refine hK.out _ _ (fun h => absurd rfl h) ?_
              clear hK K' s0 s1 s2 s3 s4 t0 t1 t2 t3 t4
              refine wpAnyT_done (by kernel_rfl) ?_ _
              have HFIN := hide' hfin
              have HSD := hide' hsd
              clear hfin hbz hzd hsd
              go_wp2_with fail
              go_meet
              case rel => exact ⟨D, rfl, HFIN.out.1, HFIN.out.2, HSD.out⟩
          · go_simp
            refine hK.out _ _ (fun _ => by exact ⟨up_cell (hbz.trans ((below_al _ _).mono hbz.size)) d0.out, up_cell (hbz.trans ((below_al _ _).mono hbz.size)) d3.out, up_cell (hbz.trans ((below_al _ _).mono hbz.size)) d4.out⟩) ?_
            clear hK K'
            obtain ⟨D, hD⟩ : ∃ x, x = y0.heap.size := ⟨_, rfl⟩
            rw [← hD]
            refine wpAnyT_letter (fun W => Below z.heap.size z W ∧ W.heap[D]? = some (.cells #[.int .i64 0, .int .i64 0, .int .i64 0, .int .i64 0, .int .i64 0] 38 (0, 0)) ∧ z.heap.size ≤ D) ⟨hbz.trans ((below_al _ _).mono hbz.size), (by rw [hD]; exact alloc_new _ _), (by rw [hD]; exact hbz.size)⟩ ?_
            clear hbz hD y0
            rintro y0 ⟨hbz, hzd, hsd⟩
            refine wpAnyT_one (i := 2) (by kernel_rfl) rfl rfl (fun K' hK => ?_)
            go_simp
            go_at_call 8
            refine (HP0.out _).mono ?_
            rintro e yy ⟨rfl, hyy⟩
            obtain rfl := hyy.symm
            clear hyy
            refine hK.out _ _ (fun _ => by exact ⟨up_cell hbz d0.out, up_cell hbz d3.out, up_cell hbz d4.out⟩) ?_
            clear hK K'
            refine wpAnyT_one (i := 5) (by kernel_rfl) rfl rfl (fun K' hK => ?_)
            go_simp
            go_at_call 8
            refine (HP3.out _).mono ?_
            rintro e yy ⟨rfl, hyy⟩
            obtain rfl := hyy.symm
            clear hyy
            refine hK.out _ _ (fun _ => by exact ⟨up_cell hbz d0.out, up_cell hbz d3.out, up_cell hbz d4.out⟩) ?_
            clear hK K'
            refine wpAnyT_one (i := 8) (by kernel_rfl) rfl rfl (fun K' hK => ?_)
            go_simp
            go_at_call 8
            refine (HP4.out _).mono ?_
            rintro e yy ⟨rfl, hyy⟩
            obtain rfl := hyy.symm
            clear hyy
            refine hK.out _ _ (fun _ => by exact ⟨up_cell hbz d0.out, up_cell hbz d3.out, up_cell hbz d4.out⟩) ?_
            clear hK K'
            refine wpAnyD_takeAt 9 (some 30) (v := ?_) rfl (by kernel_rfl) (by kernel_rfl) (by kernel_rfl) (by kernel_rfl) (by kernel_rfl) (fun _ _ _ h => h) (by exact ⟨up_cell hbz d0.out, up_cell hbz d3.out, up_cell hbz d4.out⟩) (fun o hop => ?_) ?_
            rotate_left
            · injection hop with hop
              subst hop
              refine ⟨rfl, fun W hW => ?_⟩
              obtain ⟨s0, s1, s2⟩ := hW
              go_simp
              first
              | rfl
              | (constructor <;> rfl)
              | rw [if_neg (by omega)]
            try simp only [Act.put, List.setIfInBounds_toArray, List.set_cons_zero, List.set_cons_succ]
            have s0 : y0.cell? ⟨D, 0, none⟩ = some (.int .i64 0) := (cells_at hzd 0).trans rfl
            have t0 := frozen_no hzd 0
            have s1 : y0.cell? ⟨D, 1, none⟩ = some (.int .i64 0) := (cells_at hzd 1).trans rfl
            have t1 := frozen_no hzd 1
            have s2 : y0.cell? ⟨D, 2, none⟩ = some (.int .i64 0) := (cells_at hzd 2).trans rfl
            have t2 := frozen_no hzd 2
            have s3 : y0.cell? ⟨D, 3, none⟩ = some (.int .i64 0) := (cells_at hzd 3).trans rfl
            have t3 := frozen_no hzd 3
            have s4 : y0.cell? ⟨D, 4, none⟩ = some (.int .i64 0) := (cells_at hzd 4).trans rfl
            have t4 := frozen_no hzd 4
            have hfin : Below z.heap.size z (((((y0.setCell ⟨D, 0, none⟩ (.int .i64 (pa : Int))).setCell ⟨D, 1, none⟩ (.int .i64 0)).setCell ⟨D, 2, none⟩ (.int .i64 0)).setCell ⟨D, 3, none⟩ (.int .i64 (pt : Int))).setCell ⟨D, 4, none⟩ (.int .i64 (pw : Int))) ∧ (((((y0.setCell ⟨D, 0, none⟩ (.int .i64 (pa : Int))).setCell ⟨D, 1, none⟩ (.int .i64 0)).setCell ⟨D, 2, none⟩ (.int .i64 0)).setCell ⟨D, 3, none⟩ (.int .i64 (pt : Int))).setCell ⟨D, 4, none⟩ (.int .i64 (pw : Int))).heap[D]? = some (.cells #[.int .i64 (pa : Int), .int .i64 0, .int .i64 0, .int .i64 (pt : Int), .int .i64 (pw : Int)] 38 (0, 0)) := ⟨((((hbz.setCell (p := ⟨D, 0, none⟩) hsd _).setCell (p := ⟨D, 1, none⟩) hsd _).setCell (p := ⟨D, 2, none⟩) hsd _).setCell (p := ⟨D, 3, none⟩) hsd _).setCell (p := ⟨D, 4, none⟩) hsd _, set_five hzd _ _ _ _ _⟩
            refine wpAnyT_one (i := 11) (by kernel_rfl) rfl rfl (fun K' hK => ?_)
            go_simp
            refine hK.out _ _ (fun h => absurd rfl h) ?_
            clear hK K' s0 s1 s2 s3 s4 t0 t1 t2 t3 t4
            refine wpAnyT_done (by kernel_rfl) ?_ _
            have HFIN := hide' hfin
            have HSD := hide' hsd
            clear hfin hbz hzd hsd
            go_wp2_with fail
            go_meet
            case rel => exact ⟨D, rfl, HFIN.out.1, HFIN.out.2, HSD.out⟩
      case rest =>
        obtain ⟨K, rfl, HKK⟩ := hcut
        have HK : Hid (Below z.heap.size z wc ∧ wc.heap[K]? = some (.cells #[.int .i64 (pa : Int), .int .i64 0, .int .i64 0, .int .i64 (pt : Int), .int .i64 (pw : Int)] 38 (0, 0))) := ⟨HKK.out.1, HKK.out.2.1⟩
        have HKS : Hid (z.heap.size ≤ K) := HKK.out.2.2
        clear HKK
        go_upto_region 7 with fail
        go_cut [] from 31 to 37 (fun wc => Hid (Below z.heap.size z wc ∧ wc.heap[K]? = some (.cells #[.int .i64 (pa : Int), .int .i64 0, .int .i64 ((pa : Int) + (ps : Int)), .int .i64 (pt : Int), .int .i64 (pw : Int)] 38 (0, 0))))
        case first =>
          refine wp_region_tail (fun W => W.cell? ⟨K, 0, none⟩ = some (.int .i64 (pa : Int)) ∧ W.cell? ⟨X, 1, none⟩ = some (.int .i64 x1)) 7 (by kernel_rfl) ?_
          refine wpAnyT_letter (fun W => Below z.heap.size z W ∧ W.heap[K]? = some (.cells #[.int .i64 (pa : Int), .int .i64 0, .int .i64 0, .int .i64 (pt : Int), .int .i64 (pw : Int)] 38 (0, 0))) ⟨HK.out.1.drew, HK.out.2⟩ ?_
          clear HK
          rintro y0 ⟨hbz, hk⟩
          refine wpAnyD_takeAt 0 (some 31) (v := ?_) rfl (by kernel_rfl) (by kernel_rfl) (by kernel_rfl) (by kernel_rfl) (by kernel_rfl) (fun _ _ _ h => h) (by exact ⟨(cells_at hk 0).trans rfl, up_cell hbz d1.out⟩) (fun o hop => ?_) ?_
          rotate_left
          · injection hop with hop
            subst hop
            refine ⟨rfl, fun W hW => ?_⟩
            obtain ⟨s0, s1⟩ := hW
            go_simp
            first
            | rfl
            | (constructor <;> rfl)
            | rw [if_neg (by omega)]
          try simp only [Act.put, List.setIfInBounds_toArray, List.set_cons_zero, List.set_cons_succ]
          refine wpAnyD_takeAt 1 (some 32) (v := ?_) rfl (by kernel_rfl) (by kernel_rfl) (by kernel_rfl) (by kernel_rfl) (by kernel_rfl) (fun _ _ _ h => h) (by exact ⟨(cells_at hk 0).trans rfl, up_cell hbz d1.out⟩) (fun o hop => ?_) ?_
          rotate_left
          · injection hop with hop
            subst hop
            refine ⟨rfl, fun W hW => ?_⟩
            obtain ⟨s0, s1⟩ := hW
            go_simp
            first
            | rfl
            | (constructor <;> rfl)
            | rw [if_neg (by omega)]
          try simp only [Act.put, List.setIfInBounds_toArray, List.set_cons_zero, List.set_cons_succ]
          refine wpAnyD_takeAt 2 (some 33) (v := ?_) rfl (by kernel_rfl) (by kernel_rfl) (by kernel_rfl) (by kernel_rfl) (by kernel_rfl) (fun _ _ _ h => h) (by exact ⟨(cells_at hk 0).trans rfl, up_cell hbz d1.out⟩) (fun o hop => ?_) ?_
          rotate_left
          · injection hop with hop
            subst hop
            refine ⟨rfl, fun W hW => ?_⟩
            obtain ⟨s0, s1⟩ := hW
            go_simp
            first
            | rfl
            | (constructor <;> rfl)
            | rw [if_neg (by omega)]
          try simp only [Act.put, List.setIfInBounds_toArray, List.set_cons_zero, List.set_cons_succ]
          refine wpAnyD_takeAt 3 (some 34) (v := ?_) rfl (by kernel_rfl) (by kernel_rfl) (by kernel_rfl) (by kernel_rfl) (by kernel_rfl) (fun _ _ _ h => h) (by exact ⟨(cells_at hk 0).trans rfl, up_cell hbz d1.out⟩) (fun o hop => ?_) ?_
          rotate_left
          · injection hop with hop
            subst hop
            refine ⟨rfl, fun W hW => ?_⟩
            obtain ⟨s0, s1⟩ := hW
            go_simp
            first
            | rfl
            | (constructor <;> rfl)
            | rw [if_neg (by omega)]
          try simp only [Act.put, List.setIfInBounds_toArray, List.set_cons_zero, List.set_cons_succ]
          refine wpAnyT_one (i := 4) (by kernel_rfl) rfl rfl (fun K' hK => ?_)
          go_simp
          go_at_call 8
          refine (HP1.out _).mono ?_
          rintro e yy ⟨rfl, hyy⟩
          obtain rfl := hyy.symm
          clear hyy
          refine hK.out _ _ (fun _ => by exact ⟨(cells_at hk 0).trans rfl, up_cell hbz d1.out⟩) ?_
          clear hK K'
          refine wpAnyD_takeAt 5 (some 36) (v := ?_) rfl (by kernel_rfl) (by kernel_rfl) (by kernel_rfl) (by kernel_rfl) (by kernel_rfl) (fun _ _ _ h => h) (by exact ⟨(cells_at hk 0).trans rfl, up_cell hbz d1.out⟩) (fun o hop => ?_) ?_
          rotate_left
          · injection hop with hop
            subst hop
            refine ⟨rfl, fun W hW => ?_⟩
            obtain ⟨s0, s1⟩ := hW
            go_simp
            first
            | rfl
            | (constructor <;> rfl)
            | rw [if_neg (by omega)]
          try simp only [Act.put, List.setIfInBounds_toArray, List.set_cons_zero, List.set_cons_succ]
          refine wpAnyD_takeAt 6 (some 37) (v := ?_) rfl (by kernel_rfl) (by kernel_rfl) (by kernel_rfl) (by kernel_rfl) (by kernel_rfl) (fun _ _ _ h => h) (by exact ⟨(cells_at hk 0).trans rfl, up_cell hbz d1.out⟩) (fun o hop => ?_) ?_
          rotate_left
          · injection hop with hop
            subst hop
            refine ⟨rfl, fun W hW => ?_⟩
            obtain ⟨s0, s1⟩ := hW
            go_simp
            first
            | rfl
            | (constructor <;> rfl)
            | rw [if_neg (by omega)]
          try simp only [Act.put, List.setIfInBounds_toArray, List.set_cons_zero, List.set_cons_succ]
          have s0 : y0.cell? ⟨K, 2, none⟩ = some (.int .i64 0) := (cells_at hk 2).trans rfl
          have t0 := frozen_no hk 2
          have HKN : Hid (∀ y, Below z.heap.size z (y0.setCell ⟨K, 2, none⟩ y) ∧ (y0.setCell ⟨K, 2, none⟩ y).heap[K]? = some (.cells (#[.int .i64 (pa : Int), .int .i64 0, .int .i64 0, .int .i64 (pt : Int), .int .i64 (pw : Int)].setIfInBounds 2 y) 38 (0, 0))) := fun y => ⟨hbz.setCell (p := ⟨K, 2, none⟩) HKS.out _, set_any hk 2 y⟩
          refine wpAnyT_one (i := 7) (by kernel_rfl) rfl rfl (fun K' hK => ?_)
          go_simp
          refine hK.out _ _ (fun h => absurd rfl h) ?_
          clear hK K' s0 t0 hbz hk
          refine wpAnyT_done (by kernel_rfl) ?_ _
          have HKM : Hid (_ ∧ _) := HKN.out (.int .i64 ((pa : Int) + (ps : Int)))
          clear HKN
          go_wp2_with fail
          go_meet
          case rel => exact HKM.out
        case rest =>
          have HK : Hid (Below z.heap.size z wc ∧ wc.heap[K]? = some (.cells #[.int .i64 (pa : Int), .int .i64 0, .int .i64 ((pa : Int) + (ps : Int)), .int .i64 (pt : Int), .int .i64 (pw : Int)] 38 (0, 0))) := hcut
          clear hcut
          go_upto_region 8 with fail
          go_cut [] from 38 to 44 (fun wc => Hid (Below z.heap.size z wc ∧ wc.heap[K]? = some (.cells #[.int .i64 (pa : Int), .int .i64 ((pa : Int) + (ps : Int) + (pm : Int)), .int .i64 ((pa : Int) + (ps : Int)), .int .i64 (pt : Int), .int .i64 (pw : Int)] 38 (0, 0))))
          case first =>
            refine wp_region_tail (fun W => W.cell? ⟨K, 2, none⟩ = some (.int .i64 ((pa : Int) + (ps : Int))) ∧ W.cell? ⟨X, 2, none⟩ = some (.int .i64 x2)) 7 (by kernel_rfl) ?_
            refine wpAnyT_letter (fun W => Below z.heap.size z W ∧ W.heap[K]? = some (.cells #[.int .i64 (pa : Int), .int .i64 0, .int .i64 ((pa : Int) + (ps : Int)), .int .i64 (pt : Int), .int .i64 (pw : Int)] 38 (0, 0))) ⟨HK.out.1.drew, HK.out.2⟩ ?_
            clear HK
            rintro y0 ⟨hbz, hk⟩
            refine wpAnyD_takeAt 0 (some 38) (v := ?_) rfl (by kernel_rfl) (by kernel_rfl) (by kernel_rfl) (by kernel_rfl) (by kernel_rfl) (fun _ _ _ h => h) (by exact ⟨(cells_at hk 2).trans rfl, up_cell hbz d2.out⟩) (fun o hop => ?_) ?_
            rotate_left
            · injection hop with hop
              subst hop
              refine ⟨rfl, fun W hW => ?_⟩
              obtain ⟨s0, s1⟩ := hW
              go_simp
              first
              | rfl
              | (constructor <;> rfl)
              | rw [if_neg (by omega)]
            try simp only [Act.put, List.setIfInBounds_toArray, List.set_cons_zero, List.set_cons_succ]
            refine wpAnyD_takeAt 1 (some 39) (v := ?_) rfl (by kernel_rfl) (by kernel_rfl) (by kernel_rfl) (by kernel_rfl) (by kernel_rfl) (fun _ _ _ h => h) (by exact ⟨(cells_at hk 2).trans rfl, up_cell hbz d2.out⟩) (fun o hop => ?_) ?_
            rotate_left
            · injection hop with hop
              subst hop
              refine ⟨rfl, fun W hW => ?_⟩
              obtain ⟨s0, s1⟩ := hW
              go_simp
              first
              | rfl
              | (constructor <;> rfl)
              | rw [if_neg (by omega)]
            try simp only [Act.put, List.setIfInBounds_toArray, List.set_cons_zero, List.set_cons_succ]
            refine wpAnyD_takeAt 2 (some 40) (v := ?_) rfl (by kernel_rfl) (by kernel_rfl) (by kernel_rfl) (by kernel_rfl) (by kernel_rfl) (fun _ _ _ h => h) (by exact ⟨(cells_at hk 2).trans rfl, up_cell hbz d2.out⟩) (fun o hop => ?_) ?_
            rotate_left
            · injection hop with hop
              subst hop
              refine ⟨rfl, fun W hW => ?_⟩
              obtain ⟨s0, s1⟩ := hW
              go_simp
              first
              | rfl
              | (constructor <;> rfl)
              | rw [if_neg (by omega)]
            try simp only [Act.put, List.setIfInBounds_toArray, List.set_cons_zero, List.set_cons_succ]
            refine wpAnyD_takeAt 3 (some 41) (v := ?_) rfl (by kernel_rfl) (by kernel_rfl) (by kernel_rfl) (by kernel_rfl) (by kernel_rfl) (fun _ _ _ h => h) (by exact ⟨(cells_at hk 2).trans rfl, up_cell hbz d2.out⟩) (fun o hop => ?_) ?_
            rotate_left
            · injection hop with hop
              subst hop
              refine ⟨rfl, fun W hW => ?_⟩
              obtain ⟨s0, s1⟩ := hW
              go_simp
              first
              | rfl
              | (constructor <;> rfl)
              | rw [if_neg (by omega)]
            try simp only [Act.put, List.setIfInBounds_toArray, List.set_cons_zero, List.set_cons_succ]
            refine wpAnyT_one (i := 4) (by kernel_rfl) rfl rfl (fun K' hK => ?_)
            go_simp
            go_at_call 8
            refine (HP2.out _).mono ?_
            rintro e yy ⟨rfl, hyy⟩
            obtain rfl := hyy.symm
            clear hyy
            refine hK.out _ _ (fun _ => by exact ⟨(cells_at hk 2).trans rfl, up_cell hbz d2.out⟩) ?_
            clear hK K'
            refine wpAnyD_takeAt 5 (some 43) (v := ?_) rfl (by kernel_rfl) (by kernel_rfl) (by kernel_rfl) (by kernel_rfl) (by kernel_rfl) (fun _ _ _ h => h) (by exact ⟨(cells_at hk 2).trans rfl, up_cell hbz d2.out⟩) (fun o hop => ?_) ?_
            rotate_left
            · injection hop with hop
              subst hop
              refine ⟨rfl, fun W hW => ?_⟩
              obtain ⟨s0, s1⟩ := hW
              go_simp
              first
              | rfl
              | (constructor <;> rfl)
              | rw [if_neg (by omega)]
            try simp only [Act.put, List.setIfInBounds_toArray, List.set_cons_zero, List.set_cons_succ]
            refine wpAnyD_takeAt 6 (some 44) (v := ?_) rfl (by kernel_rfl) (by kernel_rfl) (by kernel_rfl) (by kernel_rfl) (by kernel_rfl) (fun _ _ _ h => h) (by exact ⟨(cells_at hk 2).trans rfl, up_cell hbz d2.out⟩) (fun o hop => ?_) ?_
            rotate_left
            · injection hop with hop
              subst hop
              refine ⟨rfl, fun W hW => ?_⟩
              obtain ⟨s0, s1⟩ := hW
              go_simp
              first
              | rfl
              | (constructor <;> rfl)
              | rw [if_neg (by omega)]
            try simp only [Act.put, List.setIfInBounds_toArray, List.set_cons_zero, List.set_cons_succ]
            have s0 : y0.cell? ⟨K, 1, none⟩ = some (.int .i64 0) := (cells_at hk 1).trans rfl
            have t0 := frozen_no hk 1
            have HKN : Hid (∀ y, Below z.heap.size z (y0.setCell ⟨K, 1, none⟩ y) ∧ (y0.setCell ⟨K, 1, none⟩ y).heap[K]? = some (.cells (#[.int .i64 (pa : Int), .int .i64 0, .int .i64 ((pa : Int) + (ps : Int)), .int .i64 (pt : Int), .int .i64 (pw : Int)].setIfInBounds 1 y) 38 (0, 0))) := fun y => ⟨hbz.setCell (p := ⟨K, 1, none⟩) HKS.out _, set_any hk 1 y⟩
            refine wpAnyT_one (i := 7) (by kernel_rfl) rfl rfl (fun K' hK => ?_)
            go_simp
            refine hK.out _ _ (fun h => absurd rfl h) ?_
            clear hK K' s0 t0 hbz hk
            refine wpAnyT_done (by kernel_rfl) ?_ _
            have HKM : Hid (_ ∧ _) := HKN.out (.int .i64 ((pa : Int) + (ps : Int) + (pm : Int)))
            clear HKN
            go_wp2_with fail
            go_meet
            case rel => exact HKM.out
          case rest =>
            have HK : Hid (Below z.heap.size z wc ∧ wc.heap[K]? = some (.cells #[.int .i64 (pa : Int), .int .i64 ((pa : Int) + (ps : Int) + (pm : Int)), .int .i64 ((pa : Int) + (ps : Int)), .int .i64 (pt : Int), .int .i64 (pw : Int)] 38 (0, 0))) := hcut
            clear hcut
            have k0 : wc.cell? ⟨K, 0, none⟩ = some (.int .i64 (pa : Int)) := (cells_at HK.out.2 0).trans rfl
            have k1 : wc.cell? ⟨K, 1, none⟩ = some (.int .i64 ((pa : Int) + (ps : Int) + (pm : Int))) := (cells_at HK.out.2 1).trans rfl
            have k2 : wc.cell? ⟨K, 2, none⟩ = some (.int .i64 ((pa : Int) + (ps : Int))) := (cells_at HK.out.2 2).trans rfl
            have k3 : wc.cell? ⟨K, 3, none⟩ = some (.int .i64 (pt : Int)) := (cells_at HK.out.2 3).trans rfl
            have k4 : wc.cell? ⟨K, 4, none⟩ = some (.int .i64 (pw : Int)) := (cells_at HK.out.2 4).trans rfl
            have HC : Hid (wc.ownsRow w.heap.size 38 5 u3 ls.length (ls.flatMap LakeM.cells) ∧ Below w.heap.size w wc) := ⟨own_below HZ.out.1 HK.out.1 (Nat.le_refl _), HZ.out.2.trans (HK.out.1.mono HZ.out.2.size)⟩
            have HLK : Hid (ls.length ≤ 2) := by have := HT.out.1; show _ ≤ _; omega
            obtain ⟨nk, hnk⟩ : ∃ x : LakeM, x = ⟨(pa : Int), (pa : Int) + (ps : Int) + (pm : Int), (pa : Int) + (ps : Int), (pt : Int), (pw : Int)⟩ := ⟨_, rfl⟩
            have HNK : Hid (nk.cells = [.int .i64 (pa : Int), .int .i64 ((pa : Int) + (ps : Int) + (pm : Int)), .int .i64 ((pa : Int) + (ps : Int)), .int .i64 (pt : Int), .int .i64 (pw : Int)]) := by rw [hnk]; rfl
            have HOK : Hid (LakeOk nk) := by rw [hnk]; exact ⟨by show (0 : Int) ≤ pa; omega, by show (pa : Int) ≤ pa + ps; omega, by show (pa : Int) + ps ≤ pa + ps + pm; omega, by show (pa : Int) + ps + pm ≤ 20; omega, by show (0 : Int) ≤ pt ∧ (pt : Int) ≤ 4; omega, by show (0 : Int) ≤ pw ∧ (pw : Int) ≤ 1000; omega⟩
            clear hnk HZ HK
            go_wp2_with (at_builtin; refine wpList_append_own _ rfl _ _ 24 rfl w.heap.size 38 i38 _ 5 40 Try.underlying24 hi38 h380 h381 h382 rfl (by decide) _ _ _ rfl (own_below HC.out.1 (below_al _ _) (Nat.le_refl _)) ⟨wc.heap.size, 0, none⟩ 1 1 nk.cells rfl rfl (by rw [HNK.out]; exact cell_news _ _ 38) (lake_one nk) (by have := HLK.out; unfold maxLen; omega) (by have := HLK.out; omega) (Nat.le_trans HC.out.2.size (below_al _ _).size) ?_; intro v' w8 hown' hgrow _; refine Still.go ?_)
            unfold Still
            have HNS : Hid (w8.ownsRow w.heap.size 38 5 v' (ls ++ [nk]).length ((ls ++ [nk]).flatMap LakeM.cells) ∧ Below w.heap.size w w8) := ⟨by rw [flat_snoc5, List.length_append]; exact hown', (HC.out.2.trans ((below_al _ _).mono HC.out.2.size)).grown hgrow (Nat.le_trans HC.out.2.size (below_al _ _).size) (own_at HC.out.1)⟩
            have HNT : Hid ((ls ++ [nk]).length = k + 1 ∧ ∀ l ∈ ls ++ [nk], LakeOk l) := ⟨by rw [List.length_append, HT.out.1]; rfl, fun l hl => by
              rcases List.mem_append.1 hl with h | h
              · exact HT.out.2 l h
              · rw [List.mem_singleton.1 h]; exact HOK.out⟩
            clear hown' hgrow HC HT HNK HOK k0 k1 k2 k3 k4
            go_wp2_with fail
            go_roundw
            case rel => exact ⟨k + 1, ls ++ [nk], by go_num, by omega, by omega, HNT, HNS⟩
            case measure => simp [intOf]; omega
    · have HE : Hid (ls.length ≤ 2) := by have := HT.out.1; show _ ≤ _; omega
      by_cases h20 : k < raw.length
      all_goals
        go_wp2_with fail
        go_ret
        exact ⟨ls, _, rfl, HE.out, HT.out.2, HW.out⟩
end Go.Proofs.Ytmbgjmkndhjilak
