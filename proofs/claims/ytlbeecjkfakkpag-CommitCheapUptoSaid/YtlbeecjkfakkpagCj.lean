/- Lists copied, and lists compared. -/
import Derived.Test.YtlbeecjkfakkpagCi
namespace Go.Proofs.Ytlbeecjkfakkpag
open Go.RowKit Go.Shelf

theorem Try.info47 : (Try.prog.info? 47).map (fun i => (i.zero, i.size, i.bytes)) = some (some (.agg #[.int .i64 0, .int .i64 0, .int .i64 0, .int .i64 0, .int .i64 0, .int .i64 0, .int .i64 0]), 7, 56) := by kernel_rfl
section
variable {P : Program}
theorem wpList_append_row (w : World) {ops : Array Oper} {rest : List Oper} {o : Oper} {a : Act} {Q : Exit → Act → World → Prop} (hgd : o.guard = none) (s x : Operand) (t : TypeId)
    (ho : o.op = .call { callee := .builtin .append, args := #[s, x], argTypes := #[t, t] })
    (base : Nat) (e : TypeId) (i : TypeInfo) (z : Value) (size bytes : Nat) (ht : P.underlying t = some (.slice e)) (hi : P.info? e = some i) (hz : i.zero = some z)
    (hsize : i.size = size) (hby : i.bytes = bytes) (hzs : z.cells.size = size) (hsz : 0 < size)
    (hs : a.eval s = .slice none 0 0) (xv : Value) (m : Nat) (news : List Value) (hx : a.eval x = xv) (hr : RowAt w xv m size news) (h1 : ∀ u ∈ news, u.oneCell' = true)
    (h63 : m ≤ maxLen) (hbytes : m * bytes ≤ 140737488355328) (hbase : base ≤ w.heap.size)
    (h : ∀ v' w', w'.ownsRow base e size v' m news → w.grownBy w' none → wpList P ops Q rest (a.put o.dst v') w') : wpList P ops Q (o :: rest) a w := by
  obtain ⟨hl, ao, c, rfl, hnews⟩ := hr
  cases ao with
  | some ad =>
    refine wpList_append_own w hgd s x t ho base e i z size bytes ht hi hz hsize hby hzs hsz _ 0 [] hs (World.ownsRow_nil _ _ _ _) ad m c news hx hl (fun j u hj => ?_) h1 (by rw [Nat.zero_add]; exact h63) (by rw [Nat.zero_add]; exact hbytes) hbase ?_
    · obtain ⟨b, off, e1, hc⟩ := hnews j u hj
      cases e1
      rw [add_off]; exact hc
    · intro v' w' ho' hg' _
      rw [Nat.zero_add, List.nil_append] at ho'
      exact h v' w' ho' hg'
  | none =>
    have hm : news = [] := by
      cases news with
      | nil => rfl
      | cons u r => obtain ⟨b, off, e1, _⟩ := hnews 0 u rfl; cases e1
    subst hm
    have hm0 : m = 0 := by
      rcases Nat.mul_eq_zero.1 hl.symm with h | h
      · exact h
      · omega
    subst hm0
    refine wpList_plain hgd fun K hK => ?_
    unfold Oper.wp execOp
    simp only [ho, resolve, invoke, builtin, Sem.run_bind, Sem.run_pure, Result.andThen_ok, List.map_toArray, List.map_cons, List.map_nil, hs, hx, run_append_nils w t o.type e i ht hi c]
    exact hK _ _ (h _ w (World.ownsRow_nil _ _ _ _) ⟨rfl, rfl, rfl, Nat.le_refl _, fun _ _ _ => rfl⟩)
end
theorem units_one (us : List UnitM) : ∀ u ∈ us.flatMap UnitM.cells, u.oneCell' = true := by
  intro u hu
  obtain ⟨x, _, hx⟩ := List.mem_flatMap.1 hu
  simp only [UnitM.cells, List.mem_cons, List.not_mem_nil, or_false] at hx
  rcases hx with rfl | rfl | rfl | rfl | rfl | rfl | rfl <;> rfl
set_option maxRecDepth 100000 in
theorem units_any (us : List UnitM) (v : Value) (w : World) (hx : UnitsAt w v us) (hl : us.length ≤ 2000000) :
    Calls Try.prog 9 #[v] w fun e w' => ∃ v', e = .returned v' ∧ UnitsAt w' v' us ∧ Below w.heap.size w w' := by
  obtain ⟨i0, hi0, hzz0, hzz1, hzz2⟩ := info_parts Try.info47
  have HX := hide' hx
  obtain ⟨ag, cg, rfl⟩ := rowAt_slice hx
  clear hx
  go_enter Try.func9, Try.ntmps9
  go_wp2_with (at_builtin; refine wpList_append_row _ rfl _ _ 22 rfl w.heap.size 47 i0 _ 7 56 Try.underlying22 hi0 hzz0 hzz1 hzz2 rfl (by decide) rfl _ _ _ rfl HX.out (units_one us) (by unfold maxLen; omega) (by omega) (Nat.le_refl _) ?_; intro v' w3 hown' hgrow; refine Still.go ?_)
  unfold Still
  have HB : Hid (Below w.heap.size w w3) := (Below.refl _ w).grown hgrow (Nat.le_refl _) (fun k e => by cases e)
  have HO := hide' hown'
  clear hgrow hown'
  go_wp2
  go_ret
  exact ⟨v', rfl, rowAt_of_own HO.out, HB.out⟩
set_option maxRecDepth 100000 in
theorem sides_any (l : List Bool) (n : Nat) (v : Value) (w : World) (hx : RowAt w v n 1 (l.map Value.bool)) (hl : n ≤ 2000000) :
    Calls Try.prog 10 #[v] w fun e w' => ∃ v', e = .returned v' ∧ w'.ownsRow w.heap.size 4 1 v' n (l.map Value.bool) ∧ Below w.heap.size w w' := by
  obtain ⟨i0, hi0, hzz0, hzz1, hzz2⟩ := info_parts Try.info4
  have HX := hide' hx
  obtain ⟨ag, cg, rfl⟩ := rowAt_slice hx
  clear hx
  go_enter Try.func10, Try.ntmps10
  go_wp2_with (at_builtin; refine wpList_append_row _ rfl _ _ 23 rfl w.heap.size 4 i0 _ 1 1 Try.underlying23 hi0 hzz0 hzz1 hzz2 rfl (by decide) rfl _ _ _ rfl HX.out (bools_one l) (by unfold maxLen; omega) (by omega) (Nat.le_refl _) ?_; intro v' w3 hown' hgrow; refine Still.go ?_)
  unfold Still
  have HB : Hid (Below w.heap.size w w3) := (Below.refl _ w).grown hgrow (Nat.le_refl _) (fun k e => by cases e)
  have HO := hide' hown'
  clear hgrow hown'
  go_wp2
  go_ret
  exact ⟨v', rfl, HO.out, HB.out⟩
set_option maxRecDepth 100000 in
theorem ints_any (l : List Int) (v : Value) (w : World) (hx : RowAt w v l.length 1 (ints l)) (hl : l.length ≤ 2000000) :
    Calls Try.prog 14 #[v] w fun e w' => ∃ v', e = .returned v' ∧ RowAt w' v' l.length 1 (ints l) ∧ Below w.heap.size w w' := by
  obtain ⟨i0, hi0, hzz0, hzz1, hzz2⟩ := info_parts Try.info3
  have HX := hide' hx
  obtain ⟨ag, cg, rfl⟩ := rowAt_slice hx
  clear hx
  go_enter Try.func14, Try.ntmps14
  go_wp2_with (at_builtin; refine wpList_append_row _ rfl _ _ 24 rfl w.heap.size 3 i0 _ 1 8 Try.underlying24 hi0 hzz0 hzz1 hzz2 rfl (by decide) rfl _ _ _ rfl HX.out (ints_one l) (by unfold maxLen; omega) (by omega) (Nat.le_refl _) ?_; intro v' w3 hown' hgrow; refine Still.go ?_)
  unfold Still
  have HB : Hid (Below w.heap.size w w3) := (Below.refl _ w).grown hgrow (Nat.le_refl _) (fun k e => by cases e)
  have HO := hide' hown'
  clear hgrow hown'
  go_wp2
  go_ret
  exact ⟨v', rfl, rowAt_of_own HO.out, HB.out⟩
set_option maxRecDepth 100000 in
set_option maxHeartbeats 2000000 in
theorem signs_any (l : List (List Bool)) (v : Value) (w : World) (hx : SignsAt w v l) (hl : l.length ≤ 2000000) (hr : ∀ r ∈ l, r.length ≤ 2000000) :
    Calls Try.prog 15 #[v] w fun e w' => ∃ v', e = .returned v' ∧ SignsO w' v' l ∧ Below w.heap.size w w' := by
  obtain ⟨i5, hi5, hs0, hs1, hs2⟩ := info_parts Try.info23
  have HX := hide' hx
  have HR := hide' hr
  obtain ⟨ag, cg, rfl⟩ := hx.slice
  clear hx hr
  go_enter Try.func15, Try.ntmps15
  go_wp2_with fail
  go_loopw [3, 4] (fun mv iv W => ∃ (i : Nat) (vs : List Value), iv = .int .i64 i ∧ i ≤ l.length ∧ Hid (W.ownsRow w.heap.size 23 1 mv i vs) ∧ Hid (RowsO W vs (l.take i)) ∧ Hid (Below w.heap.size w W)) (fun _ iv _ => l.length - (intOf iv).toNat)
  case atStart => exact ⟨0, [], rfl, Nat.zero_le _, World.ownsRow_nil _ _ _ _, ⟨rfl, fun i b h => by cases h⟩, Below.refl _ w⟩
  case round =>
    obtain ⟨i, vs, rfl, hi, HOWN, HRO, HBW⟩ := hrel
    by_cases hlt : i < l.length
    · obtain ⟨bo, oo, co', a', c', ex, hcell, hrow⟩ := HX.out.cell i hlt
      cases ex
      obtain ⟨p, hp⟩ : ∃ p, p = l[i] := ⟨_, rfl⟩
      have HTK : Hid (l.take (i + 1) = l.take i ++ [p]) := by show _ = _; rw [List.take_succ_eq_append_getElem hlt, hp]
      rw [← hp] at hcell hrow
      have hpl : p.length ≤ 2000000 := by rw [hp]; exact HR.out _ (List.getElem_mem hlt)
      have d0 := (HBW.out.cell (World.block_lt_of_cell? w _ hcell)).trans hcell
      have HC := hide' (sides_any p p.length (.slice a' p.length c') wr (hrow.below HBW.out (Nat.le_refl _)) hpl)
      clear hcell hrow hp
      go_wp2_with fail
      refine HC.out.mono ?_
      rintro e w1 ⟨v1, rfl, hown1, hb1⟩
      obtain ⟨a1, c1, rfl⟩ := own_slice hown1
      have HB1 := hide' hb1
      have HO1 := hide' hown1
      have HM := hide' (own_below HOWN.out HB1.out (Nat.le_refl _))
      have hsz : w.heap.size ≤ w1.heap.size := Nat.le_trans HBW.out.size HB1.out.size
      clear hown1 hb1 HC d0
      go_wp2_with (at_builtin; refine wpList_append_own _ rfl _ _ 32 rfl w.heap.size 23 i5 (.slice none 0 0) 1 24 Try.underlying32 hi5 hs0 hs1 hs2 rfl (by decide) _ _ _ rfl (HM.out.alloc _) ⟨w1.heap.size, 0, none⟩ 1 1 [.slice a1 p.length c1] rfl rfl (cell_one_new _ _ _) (one_cell rfl) (by unfold maxLen; omega) (by omega) (by simp; omega) ?_; intro z w2 hoz hg2 _; refine Still.go ?_)
      unfold Still
      have HKE : Hid (KeepE 23 w1 w2) := (KeepE.alloc 23 w1 _).trans (KeepE.grown (HM.out.alloc _) hg2)
      have HR2 : Hid (RowsO w2 (vs ++ [.slice a1 p.length c1]) (l.take (i + 1))) := by
        show RowsO _ _ _
        rw [HTK.out]
        exact ((HRO.out.keep (KeepE.below (e := 23) HB1.out (Nat.le_refl _)) (by decide)).keep HKE.out (by decide)).snoc (own_keep (own_base HO1.out (Nat.zero_le _)) HKE.out (by decide))
      have HZ := hide' hoz
      have HB2 : Hid (Below w.heap.size w w2) := below_app (HBW.out.trans (HB1.out.mono HBW.out.size)) HM.out (Nat.le_refl _) hsz hg2
      clear hoz hg2 HM HO1 HKE
      go_wp2
      go_roundw
      case rel => exact ⟨i + 1, _, by go_num, by omega, HZ, HR2, HB2⟩
      case measure => simp [intOf]; omega
    · have HE : Hid (SignsO wr u3 l) := by
        have hie : i = l.length := by omega
        have h1 := HOWN.out
        have h2 := HRO.out
        rw [hie] at h1 h2
        rw [List.take_length] at h2
        exact ⟨vs, own_base h1 (Nat.zero_le _), h2⟩
      go_wp2
      go_ret
      exact ⟨_, rfl, HE.out, HBW.out⟩
end Go.Proofs.Ytlbeecjkfakkpag
