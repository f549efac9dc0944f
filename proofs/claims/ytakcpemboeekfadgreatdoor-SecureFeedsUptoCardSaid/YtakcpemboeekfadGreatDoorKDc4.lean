/- A network with memory of its own: the copies that the statement hands on. -/
import Derived.Test.YtakcpemboeekfadGreatDoorKDc1
import Derived.Test.YtakcpemboeekfadGreatDoorKEq0
namespace Go.Proofs.YtakcpemboeekfadGreatDoor.Doc
open Go.RowKit

/-- A mark at which a walk stands still. -/
def Stand (p : Prop) : Prop := p
theorem Stand.go {p : Prop} (h : Stand p) : p := h
section
variable {P : Program}
theorem wpList_append_allN (w : World) {ops : Array Oper} {rest : List Oper} {o : Oper} {a : Act} {Q : Exit → Act → World → Prop} (hgd : o.guard = none) (s x : Operand) (t : TypeId)
    (ho : o.op = .call { callee := .builtin .append, args := #[s, x], argTypes := #[t, t] })
    (base : Nat) (e : TypeId) (i : TypeInfo) (z : Value) (sz bytes : Nat) (ht : P.underlying t = some (.slice e)) (hi : P.info? e = some i) (hz : i.zero = some z)
    (hsize : i.size = sz) (hby : i.bytes = bytes) (hzs : z.cells.size = sz) (hpos : 0 < sz)
    (hs : a.eval s = .slice none 0 0) (ao : Option Addr) (m c : Nat) (news : List Value) (hx : a.eval x = .slice ao m c) (hl : news.length = m * sz)
    (hnews : ∀ j u, news[j]? = some u → ∃ b off, ao = some ⟨b, off, none⟩ ∧ w.cell? ⟨b, off + j, none⟩ = some u) (h1 : ∀ u ∈ news, u.oneCell' = true)
    (h63 : m ≤ maxLen) (hbytes : m * bytes ≤ 140737488355328) (hbase : base ≤ w.heap.size)
    (h : ∀ v' w', w'.ownsRow base e sz v' m news → w.grownBy w' none → wpList P ops Q rest (a.put o.dst v') w') : wpList P ops Q (o :: rest) a w := by
  cases ao with
  | some ad =>
    refine wpList_append_own w hgd s x t ho base e i z sz bytes ht hi hz hsize hby hzs hpos _ 0 [] hs (World.ownsRow_nil _ _ _ _) ad m c news hx hl (fun j u hj => ?_) h1 (by rw [Nat.zero_add]; exact h63) (by rw [Nat.zero_add]; exact hbytes) hbase ?_
    · obtain ⟨b, off, e1, hc⟩ := hnews j u hj
      cases e1
      rw [add_off]; exact hc
    · intro v' w' ho' hg' _
      rw [Nat.zero_add, List.nil_append] at ho'
      exact h v' w' ho' hg'
  | none =>
    have hm : news = [] := by
      cases news with
      | nil => rfl
      | cons u r => obtain ⟨b, off, e1, _⟩ := hnews 0 u rfl; cases e1
    subst hm
    have hm0 : m = 0 := by
      rcases Nat.mul_eq_zero.1 hl.symm with h0 | h0
      · exact h0
      · omega
    subst hm0
    refine wpList_plain hgd fun K hK => ?_
    unfold Oper.wp execOp
    simp only [ho, resolve, invoke, builtin, Sem.run_bind, Sem.run_pure, Result.andThen_ok, List.map_toArray, List.map_cons, List.map_nil, hs, hx, run_append_nils w t o.type e i ht hi c]
    exact hK _ _ (h _ w (World.ownsRow_nil _ _ _ _) ⟨rfl, rfl, rfl, Nat.le_refl _, fun _ _ _ => rfl⟩)
end
theorem flat_one {α : Type} (f : α → List Value) (hf : ∀ x, ∀ u ∈ f x, u.oneCell' = true) (xs : List α) : ∀ u ∈ xs.flatMap f, u.oneCell' = true := by
  intro u hu
  obtain ⟨x, _, hx⟩ := List.mem_flatMap.1 hu
  exact hf x u hx
theorem line_one (x : LineM) : ∀ u ∈ x.cells, u.oneCell' = true := by intro u hu; simp [LineM.cells] at hu; rcases hu with rfl | rfl | rfl | rfl | rfl <;> rfl
theorem gen_one (x : GenM) : ∀ u ∈ x.cells, u.oneCell' = true := by intro u hu; simp [GenM.cells] at hu; rcases hu with rfl | rfl | rfl | rfl | rfl <;> rfl
theorem load_one (x : LoadM) : ∀ u ∈ x.cells, u.oneCell' = true := by intro u hu; simp [LoadM.cells] at hu; rcases hu with rfl | rfl | rfl <;> rfl
theorem tie_one (x : TieM) : ∀ u ∈ x.cells, u.oneCell' = true := by intro u hu; simp [TieM.cells] at hu; rcases hu with rfl | rfl | rfl | rfl <;> rfl

set_option maxRecDepth 100000 in
set_option maxHeartbeats 1600000 in
theorem copied_any (xs : List ByteArray) (v : Value) (w : World) (hx : TextsAt w v xs) (hn : xs.length ≤ 2000000) :
    Calls Tryz.prog 11 #[v] w fun e w' => ∃ v', e = .returned v' ∧ w'.ownsRow w.heap.size 9 1 v' xs.length (xs.map Value.string) ∧ Below w.heap.size w w' := by
  obtain ⟨hl, a, cap, rfl, hc⟩ := hx
  obtain ⟨i0, hi, hz0, hz1, hz2⟩ := info_parts Tryz.info9
  go_enter Tryz.func11, Tryz.ntmps11
  go_wp2_with (at_builtin; refine wpList_append_allN _ rfl _ _ 22 rfl w.heap.size 9 i0 (.string ⟨#[]⟩) 1 16 Tryz.underlying22 hi hz0 hz1 hz2 rfl (by decide) rfl a xs.length cap (xs.map Value.string) rfl hl hc (texts_one _) (by unfold maxLen; omega) (by omega) (Nat.le_refl _) ?_; intro v1 w1 hown1 hg1)
  have HB := hide' ((Below.refl w.heap.size w).grown hg1 (Nat.le_refl _) (fun k e => by cases e))
  clear hg1 hc hl
  go_ret
  exact ⟨_, rfl, hown1, HB.out⟩

/-- The copy at work: the network in its box p, the result's box behind it. -/
structure Cp (w W : World) (p : Nat) (nm : ByteArray) (c1 c2 c3 c4 c5 : Value) : Prop where
  box : W.heap[p]? = some (.cells #[.string nm, c1, c2, c3, c4, c5] 28 (0, 0))
  res : W.heap[p + 1]? = some (.cells #[.string ⟨#[]⟩, .slice none 0 0, .slice none 0 0, .slice none 0 0, .slice none 0 0, .slice none 0 0] 28 (0, 0))
  bel : Below p w W
section
variable {w W W1 : World} {p : Nat} {nm : ByteArray} {c1 c2 c3 c4 c5 : Value}
theorem Cp.size (h : Cp w W p nm c1 c2 c3 c4 c5) : p + 1 < W.heap.size := (Array.getElem?_eq_some_iff.1 h.res).1
theorem Cp.grow (h : Cp w W p nm c1 c2 c3 c4 c5) (hb : Below W.heap.size W W1) : Cp w W1 p nm c1 c2 c3 c4 c5 := by
  have hs := h.size
  exact ⟨(hb.block p (by omega)).trans h.box, (hb.block _ hs).trans h.res, h.bel.trans (hb.mono (by omega))⟩
theorem Cp.set (h : Cp w W p nm c1 c2 c3 c4 c5) {j : Nat} {x : Value} {cs : Array Value} (hc : (#[.string nm, c1, c2, c3, c4, c5] : Array Value).setIfInBounds j x = cs) :
    (W.setCell ⟨p, j, none⟩ x).heap[p]? = some (.cells cs 28 (0, 0)) ∧ (W.setCell ⟨p, j, none⟩ x).heap[p + 1]? = some (.cells #[.string ⟨#[]⟩, .slice none 0 0, .slice none 0 0, .slice none 0 0, .slice none 0 0, .slice none 0 0] 28 (0, 0)) ∧ Below p w (W.setCell ⟨p, j, none⟩ x) := by
  refine ⟨by rw [← hc]; exact set_any h.box j x, (Below.heap_setCell _ _ _ _ (by show p + 1 ≠ p; omega)).trans h.res, h.bel.setCell (p := ⟨p, j, none⟩) (Nat.le_refl _) _⟩
theorem Cp.set1 (h : Cp w W p nm c1 c2 c3 c4 c5) (x : Value) : Cp w (W.setCell ⟨p, 1, none⟩ x) p nm x c2 c3 c4 c5 := by obtain ⟨a, b, c⟩ := h.set (j := 1) (x := x) rfl; exact ⟨a, b, c⟩
theorem Cp.set2 (h : Cp w W p nm c1 c2 c3 c4 c5) (x : Value) : Cp w (W.setCell ⟨p, 2, none⟩ x) p nm c1 x c3 c4 c5 := by obtain ⟨a, b, c⟩ := h.set (j := 2) (x := x) rfl; exact ⟨a, b, c⟩
theorem Cp.set3 (h : Cp w W p nm c1 c2 c3 c4 c5) (x : Value) : Cp w (W.setCell ⟨p, 3, none⟩ x) p nm c1 c2 x c4 c5 := by obtain ⟨a, b, c⟩ := h.set (j := 3) (x := x) rfl; exact ⟨a, b, c⟩
theorem Cp.set4 (h : Cp w W p nm c1 c2 c3 c4 c5) (x : Value) : Cp w (W.setCell ⟨p, 4, none⟩ x) p nm c1 c2 c3 x c5 := by obtain ⟨a, b, c⟩ := h.set (j := 4) (x := x) rfl; exact ⟨a, b, c⟩
theorem Cp.set5 (h : Cp w W p nm c1 c2 c3 c4 c5) (x : Value) : Cp w (W.setCell ⟨p, 5, none⟩ x) p nm c1 c2 c3 c4 x := by obtain ⟨a, b, c⟩ := h.set (j := 5) (x := x) rfl; exact ⟨a, b, c⟩
theorem Cp.own (h : Cp w W p nm c1 c2 c3 c4 c5) {B e sz n : Nat} {v : Value} {xs : List Value} (ho : W.ownsRow B e sz v n xs) (he : e ≠ 28) (j : Nat) (x : Value) : (W.setCell ⟨p, j, none⟩ x).ownsRow B e sz v n xs :=
  own_block ho h.box he fun _ _ hk => Below.heap_setCell _ _ _ _ hk
end

set_option maxRecDepth 100000 in
set_option maxHeartbeats 4000000 in
theorem NetOf_any (N : NetM) (v : Value) (w : World) (hx : NetAt w v N) (hn : lens2 N) :
    Calls Tryz.prog 5 #[v] w fun e w' => ∃ b l g d t, e = .returned (.agg #[.string N.name, b, l, g, d, t]) ∧ Owns w' w.heap.size b l g d t N ∧ Below w.heap.size w w' := by
  obtain ⟨b, l, g, d, t, rfl, hb, hl, hg, hd, ht⟩ := hx
  obtain ⟨n1, n2, n3, n4, n5⟩ := hn
  obtain ⟨ab, cb, rfl⟩ := rowAt_slice hb
  obtain ⟨al, cl, rfl⟩ := rowAt_slice hl
  obtain ⟨ag, cg, rfl⟩ := rowAt_slice hg
  obtain ⟨ad, cd, rfl⟩ := rowAt_slice hd
  obtain ⟨at', ct, rfl⟩ := rowAt_slice ht
  obtain ⟨W, hW⟩ : ∃ W, W = (w.alloc (.cells #[.string N.name, .slice ab N.buses.length cb, .slice al N.lines.length cl, .slice ag N.gens.length cg, .slice ad N.loads.length cd, .slice at' N.ties.length ct] 28)).alloc (.cells #[.string ⟨#[]⟩, .slice none 0 0, .slice none 0 0, .slice none 0 0, .slice none 0 0, .slice none 0 0] 28) := ⟨_, rfl⟩
  have hC : Cp w W w.heap.size N.name (.slice ab N.buses.length cb) (.slice al N.lines.length cl) (.slice ag N.gens.length cg) (.slice ad N.loads.length cd) (.slice at' N.ties.length ct) := by
    refine ⟨?_, ?_, ?_⟩
    · rw [hW]; exact (Below.heap_alloc _ _ _ (by simp)).trans (World.alloc_heap_new w _)
    · rw [hW]
      have := World.alloc_heap_new (w.alloc (.cells #[.string N.name, .slice ab N.buses.length cb, .slice al N.lines.length cl, .slice ag N.gens.length cg, .slice ad N.loads.length cd, .slice at' N.ties.length ct] 28)) (.cells #[.string ⟨#[]⟩, .slice none 0 0, .slice none 0 0, .slice none 0 0, .slice none 0 0, .slice none 0 0] 28)
      rwa [World.size_alloc] at this
    · rw [hW]; exact ((Below.refl _ w).alloc (Nat.le_refl _) _).alloc (by simp) _
  have HB := hide' (copied_any N.buses _ W (RowAt.below hb hC.bel (Nat.le_refl _)) n1)
  obtain ⟨k0, k1, k2, k3, k4, k5, kf⟩ := cells28 hC.box
  have HW := hide' hW
  have HC := hide' hC
  clear hW hC hb
  have HL := hide' hl
  have HG := hide' hg
  have HD := hide' hd
  have HT := hide' ht
  clear hl hg hd ht
  go_enter Tryz.func5, Tryz.ntmps5
  go_wp2_with fail
  rw [← HW.out]
  refine HB.out.mono ?_
  rintro e w1 ⟨v1, rfl, ho1, hb1⟩
  obtain ⟨a1, cap1, rfl⟩ := own_slice ho1
  have hC1 := HC.out.grow hb1
  obtain ⟨k0, k1, k2, k3, k4, k5, kf⟩ := cells28 hC1.box
  have HC1' := hide' (hC1.set1 (.slice a1 N.buses.length cap1))
  have HO1 := hide' (own_base (hC1.own ho1 (by decide) 1 (.slice a1 N.buses.length cap1)) (by have := HC.out.size; show w.heap.size ≤ _; omega))
  have hsz1 : w1.heap.size = (w1.setCell ⟨w.heap.size, 1, none⟩ (.slice a1 N.buses.length cap1)).heap.size := by rw [World.size_setCell]
  clear hC1 hb1 ho1 hsz1
  obtain ⟨i2, hi2, hz20, hz21, hz22⟩ := info_parts Tryz.info51
  obtain ⟨hl2, a0, c0, e0, hc2⟩ := RowAt.below HL.out HC1'.out.bel (Nat.le_refl _)
  cases e0
  go_wp2_with (at_builtin; refine Stand.go ?_)
  unfold Stand
  refine wpList_append_allN _ rfl _ _ 23 rfl w.heap.size 51 i2 (.agg #[.string ⟨#[]⟩, .int .i64 0, .int .i64 0, .int .i64 0, .int .i64 0]) 5 48 Tryz.underlying23 hi2 hz20 hz21 hz22 rfl (by decide) rfl _ _ _ _ rfl hl2 hc2 (flat_one _ line_one _) (by unfold maxLen; omega) (by omega) (by have := HC1'.out.size; omega) ?_
  intro v2 w2 ho2 hg2
  obtain ⟨a2, cap2, rfl⟩ := own_slice ho2
  have hb2 := (Below.refl _ _).grown hg2 (Nat.le_refl _) (fun k e => by cases e)
  have hC2 := HC1'.out.grow hb2
  obtain ⟨k0, k1, k2, k3, k4, k5, kf⟩ := cells28 hC2.box
  have HC2' := hide' (hC2.set2 (.slice a2 N.lines.length cap2))
  have HO1 := hide' (hC2.own (own_below HO1.out hb2 (Nat.le_refl _)) (by decide) 2 (.slice a2 N.lines.length cap2))
  have HO2 := hide' (hC2.own ho2 (by decide) 2 (.slice a2 N.lines.length cap2))
  clear hC2 hb2 ho2 hg2 hc2 hl2 hi2 hz20 hz21 hz22
  obtain ⟨i3, hi3, hz30, hz31, hz32⟩ := info_parts Tryz.info40
  obtain ⟨hl3, a0, c0, e0, hc3⟩ := RowAt.below HG.out HC2'.out.bel (Nat.le_refl _)
  cases e0
  go_wp2_with (at_builtin; refine Stand.go ?_)
  unfold Stand
  refine wpList_append_allN _ rfl _ _ 24 rfl w.heap.size 40 i3 (.agg #[.string ⟨#[]⟩, .int .i64 0, .int .i64 0, .int .i64 0, .int .i64 0]) 5 48 Tryz.underlying24 hi3 hz30 hz31 hz32 rfl (by decide) rfl _ _ _ _ rfl hl3 hc3 (flat_one _ gen_one _) (by unfold maxLen; omega) (by omega) (by have := HC2'.out.size; omega) ?_
  intro v3 w3 ho3 hg3
  obtain ⟨a3, cap3, rfl⟩ := own_slice ho3
  have hb3 := (Below.refl _ _).grown hg3 (Nat.le_refl _) (fun k e => by cases e)
  have hC3 := HC2'.out.grow hb3
  obtain ⟨k0, k1, k2, k3, k4, k5, kf⟩ := cells28 hC3.box
  have HC3' := hide' (hC3.set3 (.slice a3 N.gens.length cap3))
  have HO1 := hide' (hC3.own (own_below HO1.out hb3 (Nat.le_refl _)) (by decide) 3 (.slice a3 N.gens.length cap3))
  have HO2 := hide' (hC3.own (own_below HO2.out hb3 (Nat.le_refl _)) (by decide) 3 (.slice a3 N.gens.length cap3))
  have HO3 := hide' (hC3.own ho3 (by decide) 3 (.slice a3 N.gens.length cap3))
  clear hC3 hb3 ho3 hg3 hc3 hl3 hi3 hz30 hz31 hz32
  obtain ⟨i4, hi4, hz40, hz41, hz42⟩ := info_parts Tryz.info42
  obtain ⟨hl4, a0, c0, e0, hc4⟩ := RowAt.below HD.out HC3'.out.bel (Nat.le_refl _)
  cases e0
  go_wp2_with (at_builtin; refine Stand.go ?_)
  unfold Stand
  refine wpList_append_allN _ rfl _ _ 25 rfl w.heap.size 42 i4 (.agg #[.string ⟨#[]⟩, .int .i64 0, .int .i64 0]) 3 32 Tryz.underlying25 hi4 hz40 hz41 hz42 rfl (by decide) rfl _ _ _ _ rfl hl4 hc4 (flat_one _ load_one _) (by unfold maxLen; omega) (by omega) (by have := HC3'.out.size; omega) ?_
  intro v4 w4 ho4 hg4
  obtain ⟨a4, cap4, rfl⟩ := own_slice ho4
  have hb4 := (Below.refl _ _).grown hg4 (Nat.le_refl _) (fun k e => by cases e)
  have hC4 := HC3'.out.grow hb4
  obtain ⟨k0, k1, k2, k3, k4, k5, kf⟩ := cells28 hC4.box
  have HC4' := hide' (hC4.set4 (.slice a4 N.loads.length cap4))
  have HO1 := hide' (hC4.own (own_below HO1.out hb4 (Nat.le_refl _)) (by decide) 4 (.slice a4 N.loads.length cap4))
  have HO2 := hide' (hC4.own (own_below HO2.out hb4 (Nat.le_refl _)) (by decide) 4 (.slice a4 N.loads.length cap4))
  have HO3 := hide' (hC4.own (own_below HO3.out hb4 (Nat.le_refl _)) (by decide) 4 (.slice a4 N.loads.length cap4))
  have HO4 := hide' (hC4.own ho4 (by decide) 4 (.slice a4 N.loads.length cap4))
  clear hC4 hb4 ho4 hg4 hc4 hl4 hi4 hz40 hz41 hz42
  obtain ⟨i5, hi5, hz50, hz51, hz52⟩ := info_parts Tryz.info53
  obtain ⟨hl5, a0, c0, e0, hc5⟩ := RowAt.below HT.out HC4'.out.bel (Nat.le_refl _)
  cases e0
  go_wp2_with (at_builtin; refine Stand.go ?_)
  unfold Stand
  refine wpList_append_allN _ rfl _ _ 26 rfl w.heap.size 53 i5 (.agg #[.string ⟨#[]⟩, .int .i64 0, .int .i64 0, .bool false]) 4 40 Tryz.underlying26 hi5 hz50 hz51 hz52 rfl (by decide) rfl _ _ _ _ rfl hl5 hc5 (flat_one _ tie_one _) (by unfold maxLen; omega) (by omega) (by have := HC4'.out.size; omega) ?_
  intro v5 w5 ho5 hg5
  obtain ⟨a5, cap5, rfl⟩ := own_slice ho5
  have hb5 := (Below.refl _ _).grown hg5 (Nat.le_refl _) (fun k e => by cases e)
  have hC5 := HC4'.out.grow hb5
  obtain ⟨k0, k1, k2, k3, k4, k5, kf⟩ := cells28 hC5.box
  obtain ⟨r0, r1, r2, r3, r4, r5, rf⟩ := cells28 hC5.res
  have HC5' := hide' (hC5.set5 (.slice a5 N.ties.length cap5))
  have HO1 := hide' (hC5.own (own_below HO1.out hb5 (Nat.le_refl _)) (by decide) 5 (.slice a5 N.ties.length cap5))
  have HO2 := hide' (hC5.own (own_below HO2.out hb5 (Nat.le_refl _)) (by decide) 5 (.slice a5 N.ties.length cap5))
  have HO3 := hide' (hC5.own (own_below HO3.out hb5 (Nat.le_refl _)) (by decide) 5 (.slice a5 N.ties.length cap5))
  have HO4 := hide' (hC5.own (own_below HO4.out hb5 (Nat.le_refl _)) (by decide) 5 (.slice a5 N.ties.length cap5))
  have HO5 := hide' (hC5.own ho5 (by decide) 5 (.slice a5 N.ties.length cap5))
  clear hC5 hb5 ho5 hg5 hc5 hl5 hi5 hz50 hz51 hz52
  obtain ⟨w6, hw6⟩ : ∃ w6, w6 = six (w5.setCell ⟨w.heap.size, 5, none⟩ (.slice a5 N.ties.length cap5)) (w.heap.size + 1) (.string N.name) (.slice a1 N.buses.length cap1) (.slice a2 N.lines.length cap2) (.slice a3 N.gens.length cap3) (.slice a4 N.loads.length cap4) (.slice a5 N.ties.length cap5) := ⟨_, rfl⟩
  have e1 : Below w.heap.size w w6 := by rw [hw6]; exact six_below HC5'.out.bel (Nat.le_succ _) _ _ _ _ _ _
  have e2 : w6.heap[w.heap.size + 1]? = some (.cells #[.string N.name, .slice a1 N.buses.length cap1, .slice a2 N.lines.length cap2, .slice a3 N.gens.length cap3, .slice a4 N.loads.length cap4, .slice a5 N.ties.length cap5] 28 (0, 0)) := by rw [hw6]; exact six_box HC5'.out.res _ _ _ _ _ _
  have e3 : Owns w6 w.heap.size (.slice a1 N.buses.length cap1) (.slice a2 N.lines.length cap2) (.slice a3 N.gens.length cap3) (.slice a4 N.loads.length cap4) (.slice a5 N.ties.length cap5) N := by
    rw [hw6]
    exact ⟨six_own HO1.out HC5'.out.res (by decide) _ _ _ _ _ _, six_own HO2.out HC5'.out.res (by decide) _ _ _ _ _ _, six_own HO3.out HC5'.out.res (by decide) _ _ _ _ _ _, six_own HO4.out HC5'.out.res (by decide) _ _ _ _ _ _, six_own HO5.out HC5'.out.res (by decide) _ _ _ _ _ _⟩
  have HO := hide' e3
  have HE := hide' e1
  obtain ⟨g0, g1, g2, g3, g4, g5, _⟩ := cells28 e2
  unfold six at hw6
  have HW6 := hide' hw6
  clear e1 e2 e3 hw6
  go_wp2
  rw [← HW6.out]
  refine bodyPost_ret (v := .agg #[.string N.name, .slice a1 N.buses.length cap1, .slice a2 N.lines.length cap2, .slice a3 N.gens.length cap3, .slice a4 N.loads.length cap4, .slice a5 N.ties.length cap5]) (by simp [results, Tryz.results5, go_sem, g0, g1, g2, g3, g4, g5]) rfl ?_
  exact ⟨_, _, _, _, _, rfl, HO.out, HE.out⟩
end Go.Proofs.YtakcpemboeekfadGreatDoor.Doc
