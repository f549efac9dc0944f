/- How units turn from hour to hour, in the program. -/
import Derived.Test.YtlbeecjkfakkpagEb
namespace Go.Proofs.Ytlbeecjkfakkpag
open Go.RowKit Go.Shelf

/-- How long each has stayed: never nought. -/
def StayOk (t : List Int) : Prop := ∀ x ∈ t, x ≠ 0 ∧ -3 ≤ x ∧ x ≤ 3
/-- What turn answers. -/
def TurnO (us : List UnitM) (t : List Int) (on : List Bool) (w : World) (e : Ending) (w' : World) : Prop :=
  ((nextL us t on = none ∧ e = .returned (.tuple #[.agg (ints [0, 0, 0, 0]).toArray, .int .i64 0, .int .i64 15])) ∨
   (∃ l s, nextL us t on = some (l, s) ∧ e = .returned (.tuple #[.agg (ints (stand l)).toArray, .int .i64 s, .int .i64 0]))) ∧ Below w.heap.size w w'
theorem nextK_some {us : List UnitM} {t : List Int} {on : List Bool} {k : Nat} {l : List Int} {s y : Int} {u : UnitM} (h : nextK us t on k = some (l, s)) (hu : us[k]? = some u) (hy : stayOn u (t.getD k 0) (on.getD k false) = some y) : nextK us t on (k + 1) = some (l ++ [y], s + startOf u (t.getD k 0) (on.getD k false)) := by
  rw [nextK, h, Option.bind_some, hu, Option.bind_some, hy]; rfl
theorem nextK_stop {us : List UnitM} {t : List Int} {on : List Bool} {k : Nat} {l : List Int} {s : Int} {u : UnitM} (h : nextK us t on k = some (l, s)) (hu : us[k]? = some u) (hy : stayOn u (t.getD k 0) (on.getD k false) = none) (hk : k < us.length) : nextL us t on = none := by
  have h1 : nextK us t on (k + 1) = none := by rw [nextK, h, Option.bind_some, hu, Option.bind_some, hy]; rfl
  exact nextK_none h1 _ hk
set_option maxRecDepth 100000 in
set_option maxHeartbeats 4000000 in
theorem turn_any (us : List UnitM) (on : List Bool) (t : List Int) (lv rv ov : Value) (w : World) (hx : UnitsAt w lv us) (hr : ∃ a n c, rv = .slice a n c) (ho : RowAt w ov us.length 1 (on.map Value.bool)) (hl : on.length = us.length) (h4 : us.length ≤ 4) (hm : MayUs us) (htl : t.length = us.length) (hok : StayOk t) :
    Calls Try.prog 51 #[.agg #[lv, rv], .agg (ints (stand t)).toArray, ov] w (TurnO us t on w) := by
  have HG := hide' hx
  have HO := hide' ho
  have HL := hide' hl
  have HM := hide' hm
  have HTL := hide' htl
  have HOK := hide' hok
  obtain ⟨ag, cg, rfl⟩ := rowAt_slice hx
  obtain ⟨ao, co, rfl⟩ := rowAt_slice ho
  obtain ⟨ar, nr, cr, rfl⟩ := hr
  obtain ⟨a, b, c, d, he⟩ := list4I (stand_len (t := t) (by rw [htl]; exact h4))
  have HE4 := hide' he
  rw [he]
  clear hx ho hl hm htl hok he
  rw [show (ints [a, b, c, d]).toArray = #[.int .i64 a, .int .i64 b, .int .i64 c, .int .i64 d] from rfl]
  go_enter Try.func51, Try.ntmps51
  go_wp2_with fail
  have HS0 : Hid (TSt w (((w.alloc (Obj.cells #[.slice ag us.length cg, .slice ar nr cr] 54)).alloc (Obj.cells #[.int .i64 a, .int .i64 b, .int .i64 c, .int .i64 d] 86)).alloc (Obj.cells #[.int .i64 0, .int .i64 0, .int .i64 0, .int .i64 0] 86)) (w.heap.size + 1 + 1) (w.heap.size + 1) (stand t)) := by
    have h1 := alloc_new (w.alloc (Obj.cells #[.slice ag us.length cg, .slice ar nr cr] 54)) (Obj.cells #[.int .i64 a, .int .i64 b, .int .i64 c, .int .i64 d] 86)
    have h2 := alloc_new ((w.alloc (Obj.cells #[.slice ag us.length cg, .slice ar nr cr] 54)).alloc (Obj.cells #[.int .i64 a, .int .i64 b, .int .i64 c, .int .i64 d] 86)) (Obj.cells #[.int .i64 0, .int .i64 0, .int .i64 0, .int .i64 0] 86)
    rw [World.size_alloc] at h1
    rw [World.size_alloc, World.size_alloc] at h2
    rw [HE4.out]
    exact ⟨h2, (alloc_old _ _ (by simp)).trans h1, by omega, by omega, by omega, (((Below.refl _ w).alloc (Nat.le_refl _) _).alloc (by simp) _).alloc (by simp; omega) _⟩
  obtain ⟨O, hO⟩ : ∃ K, K = w.heap.size + 1 + 1 := ⟨_, rfl⟩
  rw [← hO] at HS0 ⊢
  obtain ⟨S, hS⟩ : ∃ K, K = w.heap.size + 1 := ⟨_, rfl⟩
  rw [← hS] at HS0 ⊢
  clear hS hO HE4
  go_loopw [9, 15] (fun s i wr => ∃ (k : Nat) (l : List Int) (sc : Int), i = .int .i64 k ∧ k ≤ us.length ∧ s = .int .i64 sc ∧ Hid (nextK us t on k = some (l, sc)) ∧ Hid (TSt w wr O S (l ++ (stand t).drop k))) (fun _ i _ => us.length - (intOf i).toNat)
  case atStart => exact ⟨0, [], 0, rfl, Nat.zero_le _, rfl, rfl, HS0⟩
  case round =>
    clear HS0
    obtain ⟨k, l, sc, rfl, hk, rfl, HNX, HST⟩ := hrel
    have hsp := nextK_spec HM.out k hk l sc HNX.out
    have hsc := hsp.2.2
    have HLK := hide' hsp.1
    have HSL : Hid ((stand t).length = 4) := stand_len (by rw [HTL.out]; exact h4)
    clear hsp
    by_cases hlt : k < us.length
    · obtain ⟨bt, ot, ct', ex, hbt, hct⟩ := row_elem (f := UnitM.cells) (fun _ => rfl) HG.out k hlt (by decide)
      cases ex
      obtain ⟨u, hu⟩ : ∃ u, u = us[k] := ⟨_, rfl⟩
      rw [← hu] at hct
      have HK : Hid (us[k]? = some u) := by show _ = _; rw [hu]; exact List.getElem?_eq_getElem hlt
      have d0 := up_cell HST.out.bel (hct 0 _ rfl)
      have d1 := up_cell HST.out.bel (hct 1 _ rfl)
      have d2 := up_cell HST.out.bel (hct 2 _ rfl)
      have d3 := up_cell HST.out.bel (hct 3 _ rfl)
      have d4 := up_cell HST.out.bel (hct 4 _ rfl)
      have d5 := up_cell HST.out.bel (hct 5 _ rfl)
      have d6 := up_cell HST.out.bel (hct 6 _ rfl)
      rw [Nat.add_zero] at d0
      obtain ⟨x0, hx0⟩ : ∃ x, x = u.least := ⟨_, rfl⟩
      rw [← hx0] at d0
      obtain ⟨x1, hx1⟩ : ∃ x, x = u.most := ⟨_, rfl⟩
      rw [← hx1] at d1
      obtain ⟨x2, hx2⟩ : ∃ x, x = u.cost := ⟨_, rfl⟩
      rw [← hx2] at d2
      obtain ⟨x3, hx3⟩ : ∃ x, x = u.start := ⟨_, rfl⟩
      rw [← hx3] at d3
      obtain ⟨x4, hx4⟩ : ∃ x, x = u.up := ⟨_, rfl⟩
      rw [← hx4] at d4
      obtain ⟨x5, hx5⟩ : ∃ x, x = u.down := ⟨_, rfl⟩
      rw [← hx5] at d5
      obtain ⟨x6, hx6⟩ : ∃ x, x = u.was := ⟨_, rfl⟩
      rw [← hx6] at d6
      obtain ⟨bp, op, cp', exp, hbp, hcp⟩ := Row1.cell HO.out k (by rw [HL.out]; exact hlt)
      cases exp
      obtain ⟨b, hb⟩ : ∃ b, b = on.getD k false := ⟨_, rfl⟩
      rw [← hb] at hcp
      have d7 : ∀ o, (wr.alloc o).cell? ⟨bp, op + k, none⟩ = some (.bool b) := fun o => up_cell (HST.out.alloc o).bel hcp
      have hlen : k < (l ++ (stand t).drop k).length := by rw [List.length_append, HLK.out, List.length_drop, HSL.out]; omega
      have c1 : ∀ o, (wr.alloc o).cell? ⟨S, k, none⟩ = some (.int .i64 ((l ++ (stand t).drop k).getD k 0)) := fun o => (intsCell (HST.out.alloc o).hS (j := k) hlen).1
      have c2 : ∀ o, (wr.alloc o).frozen? ⟨S, k, none⟩ = false := fun o => (intsCell (HST.out.alloc o).hS (j := k) hlen).2
      rw [part_get HLK.out (by rw [HSL.out]; omega), stand_getD (by rw [HTL.out]; exact hlt)] at c1
      have hxx := HOK.out _ (getD_in (D := t) (j := k) (by rw [HTL.out]; exact hlt)).2
      obtain ⟨x, hxe⟩ : ∃ x, x = t.getD k 0 := ⟨_, rfl⟩
      rw [← hxe] at c1 hxx
      have hmu := HM.out k u HK.out
      have hst : 0 ≤ x3 ∧ x3 ≤ 1000000 := by rw [hx3]; exact hmu.e
      have hup : 1 ≤ x4 ∧ x4 ≤ 3 := by rw [hx4]; exact hmu.f
      have hdn : 1 ≤ x5 ∧ x5 ≤ 3 := by rw [hx5]; exact hmu.g
      have HSOME : Hid (∀ y, stayOn u x b = some y → nextK us t on (k + 1) = some (l ++ [y], sc + startOf u x b)) := fun y hy => by
        have := nextK_some HNX.out HK.out (y := y) (by rw [← hxe, ← hb]; exact hy)
        rw [← hxe, ← hb] at this
        exact this
      have HNONE : Hid (stayOn u x b = none → nextL us t on = none) := fun hy => nextK_stop HNX.out HK.out (by rw [← hxe, ← hb]; exact hy) hlt
      have HSET : Hid (∀ o y, TSt w ((wr.alloc o).setCell ⟨S, k, none⟩ (.int .i64 y)) O S ((l ++ [y]) ++ (stand t).drop (k + 1))) := fun o y => by
        rw [← part_set HLK.out (by rw [HSL.out]; omega)]; exact (HST.out.alloc o).set k y
      have HSETQ : Hid (∀ o q y, TSt w (((wr.alloc o).drewN q).setCell ⟨S, k, none⟩ (.int .i64 y)) O S ((l ++ [y]) ++ (stand t).drop (k + 1))) := fun o q y => by
        rw [← part_set HLK.out (by rw [HSL.out]; omega)]; exact ((HST.out.alloc o).drewN q).set k y
      have c3 : ∀ o q v j, (((wr.alloc o).drewN q).setCell ⟨S, k, none⟩ v).cell? ⟨wr.heap.size, j, none⟩ = (wr.alloc o).cell? ⟨wr.heap.size, j, none⟩ := fun o q v j => HST.out.new o k v j
      have o0 : ∀ o, (wr.alloc o).cell? ⟨O, 0, none⟩ = some (.int .i64 0) := fun o => (intsCell (HST.out.alloc o).hO (j := 0) (by decide)).1
      have f0 : ∀ o, (wr.alloc o).frozen? ⟨O, 0, none⟩ = false := fun o => (intsCell (HST.out.alloc o).hO (j := 0) (by decide)).2
      have o1 : ∀ o, (wr.alloc o).cell? ⟨O, 1, none⟩ = some (.int .i64 0) := fun o => (intsCell (HST.out.alloc o).hO (j := 1) (by decide)).1
      have f1 : ∀ o, (wr.alloc o).frozen? ⟨O, 1, none⟩ = false := fun o => (intsCell (HST.out.alloc o).hO (j := 1) (by decide)).2
      have o2 : ∀ o, (wr.alloc o).cell? ⟨O, 2, none⟩ = some (.int .i64 0) := fun o => (intsCell (HST.out.alloc o).hO (j := 2) (by decide)).1
      have f2 : ∀ o, (wr.alloc o).frozen? ⟨O, 2, none⟩ = false := fun o => (intsCell (HST.out.alloc o).hO (j := 2) (by decide)).2
      have o3 : ∀ o, (wr.alloc o).cell? ⟨O, 3, none⟩ = some (.int .i64 0) := fun o => (intsCell (HST.out.alloc o).hO (j := 3) (by decide)).1
      have f3 : ∀ o, (wr.alloc o).frozen? ⟨O, 3, none⟩ = false := fun o => (intsCell (HST.out.alloc o).hO (j := 3) (by decide)).2
      have HERR : Hid (∀ o q, ((((((wr.alloc o).drewN q).setCell ⟨O, 0, none⟩ (.int .i64 0)).setCell ⟨O, 1, none⟩ (.int .i64 0)).setCell ⟨O, 2, none⟩ (.int .i64 0)).setCell ⟨O, 3, none⟩ (.int .i64 0)).heap[O]? = some (.cells (ints [0, 0, 0, 0]).toArray 86 (0, 0)) ∧ Below w.heap.size w ((((((wr.alloc o).drewN q).setCell ⟨O, 0, none⟩ (.int .i64 0)).setCell ⟨O, 1, none⟩ (.int .i64 0)).setCell ⟨O, 2, none⟩ (.int .i64 0)).setCell ⟨O, 3, none⟩ (.int .i64 0))) := fun o q =>
        ⟨(set_any (set_any (set_any (set_any ((HST.out.alloc o).drewN q).hO 0 _) 1 _) 2 _) 3 _).trans rfl, (((((HST.out.alloc o).drewN q).bel.setCell (p := ⟨O, 0, none⟩) HST.out.sO _).setCell (p := ⟨O, 1, none⟩) HST.out.sO _).setCell (p := ⟨O, 2, none⟩) HST.out.sO _).setCell (p := ⟨O, 3, none⟩) HST.out.sO _⟩
      have HU : Hid (u.start = x3 ∧ u.up = x4 ∧ u.down = x5) := ⟨hx3.symm, hx4.symm, hx5.symm⟩
      clear hct hu hbt hbp hcp hx0 hx1 hx2 hx3 hx4 hx5 hx6 hmu HK HNX HST hxe hb hlen
      cases b with
      | true =>
        by_cases hpos : 0 < x
        · have HY : Hid (nextK us t on (k + 1) = some (l ++ [min (x + 1) 3], sc)) := by
            have hz : clip (x + 1) = min (x + 1) 3 := by unfold clip; split; omega; split <;> omega
            have := HSOME.out (clip (x + 1)) (by unfold stayOn; rw [if_pos rfl, if_neg (by omega)])
            rw [hz, show startOf u x true = 0 by unfold startOf; simp; omega, Int.add_zero] at this
            exact this
          clear HSOME HNONE HSETQ HERR c3 o0 o1 o2 o3 f0 f1 f2 f3
          go_wp2
          go_roundw
          case rel => exact ⟨k + 1, _, _, by go_num, by omega, rfl, HY, HSET.out _ _⟩
          case measure => simp [intOf]; omega
        · by_cases hsh : -x < x5
          · have HY : Hid (nextL us t on = none) := HNONE.out (by unfold stayOn; rw [if_pos rfl, if_pos (by omega), if_pos (by rw [HU.out.2.2]; omega)])
            clear HSOME HNONE HSETQ HSET c3
            go_wp2_with fail
            go_quiet (fail)
            go_wp2
            refine bodyPost_ret (results_cell_row2 rfl _ _ O 86 _ (0, 0) _ rfl (HERR.out _ _).1 Try.underlying86 rfl (by kernel_rfl)) rfl ?_
            exact ⟨.inl ⟨HY.out, rfl⟩, (HERR.out _ _).2⟩
          · have HY : Hid (nextK us t on (k + 1) = some (l ++ [1], sc + x3)) := by
              have := HSOME.out 1 (by unfold stayOn; rw [if_pos rfl, if_pos (by omega), if_neg (by rw [HU.out.2.2]; omega)])
              rw [show startOf u x true = x3 by unfold startOf; rw [if_pos (by simp; omega), HU.out.1]] at this
              exact this
            clear HSOME HNONE HSET HERR o0 o1 o2 o3 f0 f1 f2 f3
            go_wp2_with fail
            go_quiet (fail)
            go_wp2
            go_roundw
            case rel => exact ⟨k + 1, _, _, by go_num, by omega, rfl, HY, HSETQ.out _ _ _⟩
            case measure => simp [intOf]; omega
      | false =>
        by_cases hpos : 0 < x
        · by_cases hsh : x < x4
          · have HY : Hid (nextL us t on = none) := HNONE.out (by unfold stayOn; rw [if_neg (by decide), if_pos (by omega), if_pos (by rw [HU.out.2.1]; omega)])
            clear HSOME HNONE HSETQ HSET c3
            go_wp2_with fail
            go_quiet (fail)
            go_wp2
            refine bodyPost_ret (results_cell_row2 rfl _ _ O 86 _ (0, 0) _ rfl (HERR.out _ _).1 Try.underlying86 rfl (by kernel_rfl)) rfl ?_
            exact ⟨.inl ⟨HY.out, rfl⟩, (HERR.out _ _).2⟩
          · have HY : Hid (nextK us t on (k + 1) = some (l ++ [-1], sc)) := by
              have := HSOME.out (-1) (by unfold stayOn; rw [if_neg (by decide), if_pos (by omega), if_neg (by rw [HU.out.2.1]; omega)])
              rw [show startOf u x false = 0 by unfold startOf; simp, Int.add_zero] at this
              exact this
            clear HSOME HNONE HSET HERR o0 o1 o2 o3 f0 f1 f2 f3
            go_wp2_with fail
            go_quiet (fail)
            go_wp2
            go_roundw
            case rel => exact ⟨k + 1, _, _, by go_num, by omega, rfl, HY, HSETQ.out _ _ _⟩
            case measure => simp [intOf]; omega
        · have HY : Hid (nextK us t on (k + 1) = some (l ++ [max (x - 1) (-3)], sc)) := by
            have hz : clip (x - 1) = max (x - 1) (-3) := by unfold clip; split; omega; split <;> omega
            have := HSOME.out (clip (x - 1)) (by unfold stayOn; rw [if_neg (by decide), if_neg (by omega)])
            rw [hz, show startOf u x false = 0 by unfold startOf; simp, Int.add_zero] at this
            exact this
          clear HSOME HNONE HSETQ HERR c3 o0 o1 o2 o3 f0 f1 f2 f3
          go_wp2
          go_roundw
          case rel => exact ⟨k + 1, _, _, by go_num, by omega, rfl, HY, HSET.out _ _⟩
          case measure => simp [intOf]; omega
    · have hke : k = us.length := by omega
      subst hke
      have hll : l.length = t.length := by rw [HLK.out, HTL.out]
      have hfin : l ++ (stand t).drop us.length = stand l := by rw [← HTL.out]; exact stand_drop (by rw [HTL.out]; exact h4) l hll
      rw [hfin] at HST
      obtain ⟨a, b, c, d, he⟩ := list4I (stand_len (t := l) (by rw [hll, HTL.out]; exact h4))
      rw [he] at HST
      have HE := hide' he
      have s0 := (intsCell HST.out.hS (j := 0) (by simp)).1
      have s1 := (intsCell HST.out.hS (j := 1) (by simp)).1
      have s2 := (intsCell HST.out.hS (j := 2) (by simp)).1
      have s3 := (intsCell HST.out.hS (j := 3) (by simp)).1
      obtain ⟨o0, f0⟩ := intsCell HST.out.hO (j := 0) (by decide)
      obtain ⟨o1, f1⟩ := intsCell HST.out.hO (j := 1) (by decide)
      obtain ⟨o2, f2⟩ := intsCell HST.out.hO (j := 2) (by decide)
      obtain ⟨o3, f3⟩ := intsCell HST.out.hO (j := 3) (by decide)
      simp only [List.getD_cons_zero, List.getD_cons_succ] at s0 s1 s2 s3 o0 o1 o2 o3
      clear hfin he hlt hk hll
      go_wp2
      have HP : ((((wr.setCell ⟨O, 0, none⟩ (.int .i64 a)).setCell ⟨O, 1, none⟩ (.int .i64 b)).setCell ⟨O, 2, none⟩ (.int .i64 c)).setCell ⟨O, 3, none⟩ (.int .i64 d)).heap[O]? = some (.cells (ints [a, b, c, d]).toArray 86 (0, 0)) := (set_any (set_any (set_any (set_any HST.out.hO 0 _) 1 _) 2 _) 3 _).trans rfl
      refine bodyPost_ret (results_cell_row2 rfl _ _ O 86 _ (0, 0) _ rfl HP Try.underlying86 rfl (by kernel_rfl)) rfl ?_
      refine ⟨.inr ⟨l, sc, HNX.out, by rw [HE.out]; rfl⟩, (((HST.out.bel.setCell (p := ⟨O, 0, none⟩) HST.out.sO _).setCell (p := ⟨O, 1, none⟩) HST.out.sO _).setCell (p := ⟨O, 2, none⟩) HST.out.sO _).setCell (p := ⟨O, 3, none⟩) HST.out.sO _⟩
end Go.Proofs.Ytlbeecjkfakkpag
