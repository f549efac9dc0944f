/- One is picked off the way: what is left. -/
import Derived.Test.YtjhmendiefojoamYc
import Derived.Test.YtjhmendiefojoamOa
namespace Go.Proofs.Ytjhmendiefojoam
open Go.RowKit Go.Shelf

theorem tdiv_bd {m : Int} {d : Int} (hd : 1 < d) (h : I6 m) : I6 (m.tdiv d) := by
  obtain ⟨h0, h1⟩ := h
  by_cases hm : 0 ≤ m
  · rw [Int.tdiv_eq_ediv_of_nonneg hm]
    have h2 := Int.ediv_nonneg hm (show 0 ≤ d by omega)
    have h3 := Int.ediv_le_self d hm
    exact ⟨by omega, by omega⟩
  · have e : m.tdiv d = -((-m).tdiv d) := by rw [Int.neg_tdiv, Int.neg_neg]
    have hn : 0 ≤ -m := by omega
    rw [e, Int.tdiv_eq_ediv_of_nonneg hn]
    have h2 := Int.ediv_nonneg hn (show 0 ≤ d by omega)
    have h3 := Int.ediv_le_self d hn
    exact ⟨by omega, by omega⟩
theorem wrap64_ok {x : Int} (h : I6 x) : wrap64 x = x := by
  unfold I6 at h
  unfold wrap64
  omega
theorem put4 {w : World} {A e : Nat} {x0 x1 x2 x3 : Value} (h : w.heap[A]? = some (.cells #[x0, x1, x2, x3] e (0, 0))) (v0 v1 v2 v3 : Value) : ((((w.setCell ⟨A, 0, none⟩ v0).setCell ⟨A, 1, none⟩ v1).setCell ⟨A, 2, none⟩ v2).setCell ⟨A, 3, none⟩ v3).heap[A]? = some (.cells #[v0, v1, v2, v3] e (0, 0)) ∧ But A w ((((w.setCell ⟨A, 0, none⟩ v0).setCell ⟨A, 1, none⟩ v1).setCell ⟨A, 2, none⟩ v2).setCell ⟨A, 3, none⟩ v3) := by
  refine ⟨?_, But.set (But.set (But.set (But.set (But.refl A w) _ _) _ _) _ _) _ _⟩
  exact (set_any (set_any (set_any (set_any (h) 0 _) 1 _) 2 _) 3 _).trans (by simp only [List.setIfInBounds_toArray, List.set_cons_zero, List.set_cons_succ])
theorem own_put4 {w w' : World} {B e sz n A : Nat} {v : Value} {xs : List Value} {cur : Array Value} {e1 : Nat} (h : w.ownsRow B e sz v n xs) (_hA : w.heap[A]? = some (.cells cur e1 (0, 0))) (hb : But A w w') (hne : ∀ g, v.ownBlock = some g → g ≠ A) : w'.ownsRow B e sz v n xs := own_other h (fun k ek => hb.block k (own_lt h ek) (hne k ek))
set_option maxRecDepth 100000 in
set_option maxHeartbeats 2000000 in
theorem pick_any (l : List MsM) (a : Option Addr) (n c : Nat) (mix : Int) (w : World) (B : Nat) (hl : w.ownsRow B 39 4 (.slice a n c) n (msgs l)) (hln : l.length = n) (hn : 0 < n) (hnb : n ≤ 1000000) (hm : I6 mix) : Calls Try.prog 39 #[.slice a n c, .int .i64 mix] w fun e w' => ∃ v, e = .returned (.tuple #[.agg (l.getD (pickK n mix) noMsg).cells, v]) ∧ w'.ownsRow w.heap.size 39 4 v (l.eraseIdx (pickK n mix)).length (msgs (l.eraseIdx (pickK n mix))) ∧ Below w.heap.size w w' := by
  obtain ⟨i39, hi39, h390, h391, h392⟩ := info_parts Try.info39'
  have hkn := pick_bd (mix := mix) hn
  obtain ⟨k, hk⟩ : ∃ q, q = pickK n mix := ⟨_, rfl⟩
  rw [← hk] at hkn ⊢
  have HPK := hide' hk
  clear hk
  obtain ⟨x, hx⟩ : ∃ x, l[k]? = some x := ⟨_, List.getElem?_eq_getElem (by omega)⟩
  rw [show l.getD k noMsg = x by rw [List.getD_eq_getElem?_getD, hx]; rfl]
  have HER : Hid (msgs (l.take k) ++ msgs (l.drop (k + 1)) = msgs (l.eraseIdx k) ∧ (l.take k).length + (l.drop (k + 1)).length = (l.eraseIdx k).length) := by
    rw [List.eraseIdx_eq_take_drop_succ]
    exact ⟨(msgs_app _ _).symm, by rw [List.length_append]⟩
  obtain ⟨le, hle⟩ : ∃ q, q = l.eraseIdx k := ⟨_, rfl⟩
  rw [← hle] at HER ⊢
  clear hle
  have hcap := own_cap hl
  have HRH := hide' (row_head (rowAt_of_own hl) hln k (by omega))
  have HRR := hide' (row_rest (rowAt_of_own hl) hln (k + 1) (by omega) hcap)
  obtain ⟨xk, xn, xp, xw⟩ := x
  have hcell : ∀ j u, j < 4 → ((⟨xk, xn, xp, xw⟩ : MsM).cells.toList)[j]? = some u → ∃ b off, a = some ⟨b, off, none⟩ ∧ w.cell? ⟨b, off + k * 4 + j, none⟩ = some u := fun j u hj hu => by
    obtain ⟨_, a', c', ex, h2⟩ := rowAt_of_own hl
    simp only [Value.slice.injEq] at ex
    obtain ⟨rfl, _, rfl⟩ := ex
    obtain ⟨b, off, e, h⟩ := h2 (k * 4 + j) u (by rw [msgs_at hx j hj]; exact hu)
    exact ⟨b, off, e, by rw [Nat.add_assoc]; exact h⟩
  obtain ⟨b, off, rfl, k0⟩ := hcell 0 _ (by decide) rfl
  obtain ⟨b1, off1, e1, k1⟩ := hcell 1 _ (by decide) rfl
  obtain ⟨b2, off2, e2, k2⟩ := hcell 2 _ (by decide) rfl
  obtain ⟨b3, off3, e3, k3⟩ := hcell 3 _ (by decide) rfl
  cases e1
  cases e2
  cases e3
  rw [Nat.add_zero] at k0
  have HSH : Hid (∀ W, (Instr.slice 33 (.slice (some ⟨b, off, none⟩) n c) none (some (.int .i64 (k : Int))) none).run Try.prog W = .ok (.slice (some ⟨b, off, none⟩) k c) W) := fun W => slice_head W _ n c k (by omega)
  have HSR0 : ∀ W, (Instr.slice 33 (.slice (some ⟨b, off, none⟩) n c) (some (.int .i64 ((k : Int) + 1))) none none).run Try.prog W = .ok (.slice (if c = k + 1 then some ⟨b, off, none⟩ else (some (⟨b, off, none⟩ : Addr)).map (·.add ((k + 1) * 4))) (n - (k + 1)) (c - (k + 1))) W := fun W => by
    have h := slice_rest W (some ⟨b, off, none⟩) n c (k + 1) (by omega)
    rw [show (((k + 1 : Nat)) : Int) = (k : Int) + 1 by omega] at h
    exact h
  obtain ⟨ra, hra⟩ : ∃ q, q = (if c = k + 1 then some ⟨b, off, none⟩ else (some (⟨b, off, none⟩ : Addr)).map (·.add ((k + 1) * 4))) := ⟨_, rfl⟩
  rw [← hra] at HSR0 HRR
  have HSR := hide' HSR0
  have hkz : (0 : Int) ≤ (k : Int) ∧ (k : Int) < (n : Int) := by omega
  have wk1 : IntKind.i64.wrap ((k : Int) + 1) = (k : Int) + 1 := wrap_ok (by omega)
  have tl1 : (l.take k).length = k := by rw [List.length_take]; omega
  have tl2 : (l.drop (k + 1)).length = n - (k + 1) := by rw [List.length_drop, hln]
  rw [tl1] at HRH
  rw [tl2] at HRR
  rw [tl1, tl2] at HER
  clear hcell HSR0 hra hx hl hln tl1 tl2
  unfold MsM.cells
  simp only
  by_cases hc : 1 < n ∧ mix.tmod 3 = 1
  · have HPC := hide' (picked_any (mix.tdiv 3) n (tdiv_bd (by decide) hm) hn (by omega))
    have hpe : pickedI (mix.tdiv 3) n = (k : Int) := by
      have h := HPK.out
      unfold pickK at h
      rw [if_pos hc] at h
      have := picked_bd (n := mix.tdiv 3) hn
      omega
    rw [hpe] at HPC
    obtain ⟨hc1, hc2⟩ := hc
    have hc3 : (1 : Int) < (n : Int) := by omega
    have hc4 : (mix.tmod 3 == 1) = true := beq_iff_eq.2 hc2
    have HM := hide' hm
    clear hpe HPK hm
    go_enter Try.func39, Try.ntmps39
    go_upto_region 2 with fail
    have hqA := alloc_new w (.cells #[.int .i64 0, .int .i64 0, .int .i64 0, .bool false] 39)
    have hb1 := below_al w (.cells #[.int .i64 0, .int .i64 0, .int .i64 0, .bool false] 39)
    obtain ⟨w1, hw1⟩ : ∃ x, x = (w.alloc (.cells #[.int .i64 0, .int .i64 0, .int .i64 0, .bool false] 39)) := ⟨_, rfl⟩
    rw [← hw1] at hqA hb1 ⊢
    obtain ⟨A, hnA⟩ : ∃ x, x = w.heap.size := ⟨_, rfl⟩
    have HNE : Hid (w.heap.size ≤ A) := by show _ ≤ _; omega
    rw [← hnA] at hqA
    rw [show (Value.pointer (some { block := w.heap.size, off := 0 })) = Value.pointer (some { block := A, off := 0 }) by rw [hnA]]
    have HQA := hide' hqA
    have HB1 := hide' hb1
    clear hqA hb1 hw1 hnA
    go_wp2_with fail
    rw [wrap64_ok (tdiv_bd (by decide) HM.out)]
    refine (HPC.out _).mono ?_
    rintro e w2 ⟨rfl, hw2⟩
    obtain rfl := hw2.symm
    have k0' := up_cell HB1.out k0
    have k1' := up_cell HB1.out k1
    have k2' := up_cell HB1.out k2
    have k3' := up_cell HB1.out k3
    clear k0 k1 k2 k3
    clear HPC
    go_upto_region 5 with fail
    have hqX := alloc_new w1 (.cells #[.int .i64 xk, .int .i64 xn, .int .i64 xp, .bool xw] 39)
    have hbX := below_al w1 (.cells #[.int .i64 xk, .int .i64 xn, .int .i64 xp, .bool xw] 39)
    obtain ⟨w3, hw3⟩ : ∃ x, x = w1.alloc (.cells #[.int .i64 xk, .int .i64 xn, .int .i64 xp, .bool xw] 39) := ⟨_, rfl⟩
    rw [← hw3] at hqX hbX ⊢
    obtain ⟨X, hX⟩ : ∃ x, x = w1.heap.size := ⟨_, rfl⟩
    rw [← hX] at hqX
    rw [show (Value.pointer (some { block := w1.heap.size, off := 0 })) = Value.pointer (some { block := X, off := 0 }) by rw [hX]]
    have HS := hide' hqX
    have HA3 : Hid (w3.heap[A]? = some (.cells #[.int .i64 0, .int .i64 0, .int .i64 0, .bool false] 39 (0, 0))) := (hbX.block A (lt_heap HQA.out)).trans HQA.out
    have HB3 : Hid (Below w.heap.size w w3) := HB1.out.trans (hbX.mono HB1.out.size)
    have HAX : Hid (A ≠ X) := by have := lt_heap HQA.out; show _ ≠ _; omega
    have hb3d : Below w.heap.size w w3.drew := HB3.out.drew
    have HH3 := hide' (HRH.out.below hb3d (Nat.le_refl _))
    have HR3 := hide' (HRR.out.below hb3d (Nat.le_refl _))
    clear hqX hbX hw3 hX HQA HB1 k0' k1' k2' k3' hb3d HRH HRR
    refine wp_region_tail (fun W' => W'.heap[X]? = some (.cells #[.int .i64 xk, .int .i64 xn, .int .i64 xp, .bool xw] 39 (0, 0))) 11 (by kernel_rfl) ?_
    refine wpAnyD_takeAt 0 (some 25) (v := ?_) rfl (by kernel_rfl) (by kernel_rfl) (by kernel_rfl) (by kernel_rfl) (by kernel_rfl) (fun _ _ _ h => h) (by exact HS.out) (fun o hop => ?_) ?_
    rotate_left
    · injection hop with hop
      subst hop
      refine ⟨rfl, fun W hW => ?_⟩
      obtain ⟨g0, g1, g2, g3⟩ := cellsP4 hW
      have gh := HSH.out W
      have gr := HSR.out W
      go_simp
      try rfl
    try simp only [Act.put, List.setIfInBounds_toArray, List.set_cons_zero, List.set_cons_succ]
    refine wpAnyD_takeAt 1 (some 26) (v := ?_) rfl (by kernel_rfl) (by kernel_rfl) (by kernel_rfl) (by kernel_rfl) (by kernel_rfl) (fun _ _ _ h => h) (by exact HS.out) (fun o hop => ?_) ?_
    rotate_left
    · injection hop with hop
      subst hop
      refine ⟨rfl, fun W hW => ?_⟩
      obtain ⟨g0, g1, g2, g3⟩ := cellsP4 hW
      have gh := HSH.out W
      have gr := HSR.out W
      go_simp
      try rfl
    try simp only [Act.put, List.setIfInBounds_toArray, List.set_cons_zero, List.set_cons_succ]
    refine wpAnyD_takeAt 2 (some 27) (v := ?_) rfl (by kernel_rfl) (by kernel_rfl) (by kernel_rfl) (by kernel_rfl) (by kernel_rfl) (fun _ _ _ h => h) (by exact HS.out) (fun o hop => ?_) ?_
    rotate_left
    · injection hop with hop
      subst hop
      refine ⟨rfl, fun W hW => ?_⟩
      obtain ⟨g0, g1, g2, g3⟩ := cellsP4 hW
      have gh := HSH.out W
      have gr := HSR.out W
      go_simp
      try rfl
    try simp only [Act.put, List.setIfInBounds_toArray, List.set_cons_zero, List.set_cons_succ]
    refine wpAnyD_takeAt 3 (some 28) (v := ?_) rfl (by kernel_rfl) (by kernel_rfl) (by kernel_rfl) (by kernel_rfl) (by kernel_rfl) (fun _ _ _ h => h) (by exact HS.out) (fun o hop => ?_) ?_
    rotate_left
    · injection hop with hop
      subst hop
      refine ⟨rfl, fun W hW => ?_⟩
      obtain ⟨g0, g1, g2, g3⟩ := cellsP4 hW
      have gh := HSH.out W
      have gr := HSR.out W
      go_simp
      try rfl
    try simp only [Act.put, List.setIfInBounds_toArray, List.set_cons_zero, List.set_cons_succ]
    refine wpAnyD_takeAt 5 (some 30) (v := ?_) rfl (by kernel_rfl) (by kernel_rfl) (by kernel_rfl) (by kernel_rfl) (by kernel_rfl) (fun _ _ _ h => h) (by exact HS.out) (fun o hop => ?_) ?_
    rotate_left
    · injection hop with hop
      subst hop
      refine ⟨rfl, fun W hW => ?_⟩
      obtain ⟨g0, g1, g2, g3⟩ := cellsP4 hW
      have gh := HSH.out W
      have gr := HSR.out W
      go_simp
      try rfl
    try simp only [Act.put, List.setIfInBounds_toArray, List.set_cons_zero, List.set_cons_succ]
    refine wpAnyD_takeAt 6 (some 31) (v := ?_) rfl (by kernel_rfl) (by kernel_rfl) (by kernel_rfl) (by kernel_rfl) (by kernel_rfl) (fun _ _ _ h => h) (by exact HS.out) (fun o hop => ?_) ?_
    rotate_left
    · injection hop with hop
      subst hop
      refine ⟨rfl, fun W hW => ?_⟩
      obtain ⟨g0, g1, g2, g3⟩ := cellsP4 hW
      have gh := HSH.out W
      have gr := HSR.out W
      go_simp
      try rfl
    try simp only [Act.put, List.setIfInBounds_toArray, List.set_cons_zero, List.set_cons_succ]
    refine wpAnyD_takeAt 7 (some 32) (v := ?_) rfl (by kernel_rfl) (by kernel_rfl) (by kernel_rfl) (by kernel_rfl) (by kernel_rfl) (fun _ _ _ h => h) (by exact HS.out) (fun o hop => ?_) ?_
    rotate_left
    · injection hop with hop
      subst hop
      refine ⟨rfl, fun W hW => ?_⟩
      obtain ⟨g0, g1, g2, g3⟩ := cellsP4 hW
      have gh := HSH.out W
      have gr := HSR.out W
      go_simp
      try rfl
    try simp only [Act.put, List.setIfInBounds_toArray, List.set_cons_zero, List.set_cons_succ]
    refine wpAnyD_takeAt 8 (some 33) (v := ?_) rfl (by kernel_rfl) (by kernel_rfl) (by kernel_rfl) (by kernel_rfl) (by kernel_rfl) (fun _ _ _ h => h) (by exact HS.out) (fun o hop => ?_) ?_
    rotate_left
    · injection hop with hop
      subst hop
      refine ⟨rfl, fun W hW => ?_⟩
      obtain ⟨g0, g1, g2, g3⟩ := cellsP4 hW
      have gh := HSH.out W
      have gr := HSR.out W
      go_simp
      try rfl
    try simp only [Act.put, List.setIfInBounds_toArray, List.set_cons_zero, List.set_cons_succ]
    refine wpAnyT_one (i := 4) (by kernel_rfl) rfl rfl (fun K' hK => ?_)
    refine step_append_any rfl _ _ 33 rfl w3.drew.heap.size 39 i39 _ 4 32 Try.underlying33 hi39 h390 h391 h392 rfl (by decide) _ _ _ rfl (World.ownsRow_nil _ _ _ _) _ _ _ rfl HH3.out (msgs_one _) (by unfold maxLen; omega) (by omega) (Nat.le_refl _) ?_
    intro v4 w4 ho4 hg4
    have hb4 : Below w3.drew.heap.size w3.drew w4 := (Below.refl _ w3.drew).grown hg4 (Nat.le_refl _) (fun k e => by cases e)
    have HS4 : Hid (w4.heap[X]? = some (.cells #[.int .i64 xk, .int .i64 xn, .int .i64 xp, .bool xw] 39 (0, 0))) := (hb4.block X (lt_heap HS.out)).trans HS.out
    have HA4 : Hid (w4.heap[A]? = some (.cells #[.int .i64 0, .int .i64 0, .int .i64 0, .bool false] 39 (0, 0))) := (hb4.block A (lt_heap HA3.out)).trans HA3.out
    have HB4 : Hid (Below w.heap.size w w4) := HB3.out.drew.trans (hb4.mono HB3.out.drew.size)
    have HR4 := hide' (HR3.out.below hb4 (Nat.le_refl _))
    have HXL : Hid (X < w3.drew.heap.size ∧ A < w3.drew.heap.size ∧ w3.drew.heap.size ≤ w4.heap.size ∧ w.heap.size ≤ w3.drew.heap.size) := ⟨lt_heap HS.out, lt_heap HA3.out, hb4.size, HB3.out.drew.size⟩
    rw [Nat.zero_add, List.nil_append] at ho4
    obtain ⟨va4, vc4, hve4⟩ := own_slice ho4
    subst hve4
    have HO4 := hide' ho4
    refine hK.out _ _ (fun _ => HS4.out) ?_
    clear hK K' ho4 hg4 hb4 HH3 HR3 HA3 HB3
    try simp only [Act.put, List.setIfInBounds_toArray]
    refine wpAnyT_one (i := 9) (by kernel_rfl) rfl rfl (fun K' hK => ?_)
    refine step_append_any rfl _ _ 33 rfl w3.drew.heap.size 39 i39 _ 4 32 Try.underlying33 hi39 h390 h391 h392 rfl (by decide) _ _ _ rfl HO4.out _ _ _ rfl HR4.out (msgs_one _) (by unfold maxLen; omega) (by omega) HXL.out.2.2.1 ?_
    intro v5 w5 ho5 hg5
    have HB5 : Hid (Below w.heap.size w w5) := HB4.out.grown hg5 HB4.out.size (fun g hg => Nat.le_trans HXL.out.2.2.2 (own_at HO4.out g hg))
    have HS5 : Hid (w5.heap[X]? = some (.cells #[.int .i64 xk, .int .i64 xn, .int .i64 xp, .bool xw] 39 (0, 0))) := (hg5.block X (lt_heap HS4.out) (fun e => by have := own_at HO4.out X e.symm; have := HXL.out.1; omega)).trans HS4.out
    have HA5 : Hid (w5.heap[A]? = some (.cells #[.int .i64 0, .int .i64 0, .int .i64 0, .bool false] 39 (0, 0))) := (hg5.block A (lt_heap HA4.out) (fun e => by have := own_at HO4.out A e.symm; have := HXL.out.2.1; omega)).trans HA4.out
    rw [HER.out.1, HER.out.2] at ho5
    obtain ⟨va5, vc5, hve5⟩ := own_slice ho5
    subst hve5
    have HO5 := hide' ho5
    refine hK.out _ _ (fun _ => HS5.out) ?_
    clear hK K' ho5 hg5 HO4 HR4 HA4 HB4 HS4
    try simp only [Act.put]
    obtain ⟨b0, b1, b2, b3⟩ := cellsP4 HA5.out
    obtain ⟨e0, e1, e2, e3⟩ := frozenP4 HA5.out
    have HP := hide' (put4 HA5.out (.int .i64 xk) (.int .i64 xn) (.int .i64 xp) (.bool xw))
    have HRF := hide' (own_put4 HO5.out HA5.out HP.out.2 (by intro g hg; have := own_at HO5.out g hg; have := HXL.out.2.1; omega))
    have HBF := hide' (HB5.out.trans (HP.out.2.below HNE.out HB5.out.size))
    refine wpAnyT_one (i := 10) (by kernel_rfl) rfl rfl (fun K' hK => ?_)
    go_simp
    refine hK.out _ _ (fun _ => (Below.heap_setCell _ _ _ _ HAX.out.symm).trans ((Below.heap_setCell _ _ _ _ HAX.out.symm).trans ((Below.heap_setCell _ _ _ _ HAX.out.symm).trans ((Below.heap_setCell _ _ _ _ HAX.out.symm).trans HS5.out)))) ?_
    clear hK K' b0 b1 b2 b3 e0 e1 e2 e3
    try simp only [Act.put, List.setIfInBounds_toArray]
    refine wpAnyT_one (i := 11) (by kernel_rfl) rfl rfl (fun K' hK => ?_)
    go_simp
    refine hK.out _ _ (fun h => absurd rfl h) ?_
    clear hK K'
    try simp only [Act.put, List.setIfInBounds_toArray]
    refine wpAnyT_done (by kernel_rfl) ?_ _
    go_wp2
    refine bodyPost_ret (results_cell_row1 rfl _ _ A 39 _ (0, 0) _ rfl HP.out.1 Try.underlying39 rfl (by kernel_rfl)) rfl ?_
    exact ⟨_, rfl, own_mono HRF.out HXL.out.2.2.2, HBF.out⟩
  · have hk0 : k = 0 := by
      have h := HPK.out
      unfold pickK at h
      rw [if_neg hc] at h
      exact h
    subst hk0
    simp only [Nat.zero_mul, Nat.add_zero] at k0 k1 k2 k3
    have HSH : Hid (∀ W, (Instr.slice 33 (.slice (some ⟨b, off, none⟩) n c) none (some (.int .i64 0)) none).run Try.prog W = .ok (.slice (some ⟨b, off, none⟩) 0 c) W) := HSH.out
    have HSR : Hid (∀ W, (Instr.slice 33 (.slice (some ⟨b, off, none⟩) n c) (some (.int .i64 1)) none none).run Try.prog W = .ok (.slice ra (n - 1) (c - 1)) W) := HSR.out
    have HRR : Hid (RowAt w (.slice ra (n - 1) (c - 1)) (n - 1) 4 (msgs (l.drop 1))) := HRR.out
    have HER : Hid (msgs (l.take 0) ++ msgs (l.drop 1) = msgs le ∧ 0 + (n - 1) = le.length) := HER.out
    have hkz : (0 : Int) < (n : Int) := by omega
    have wk2 : IntKind.i64.wrap 1 = 1 := wrap_ok (by omega)
    clear HPK hm
    by_cases hn1 : 1 < n
    · have hc2 : (mix.tmod 3 == 1) = false := beq_eq_false_iff_ne.2 (fun h => hc ⟨hn1, h⟩)
      have hc3 : (1 : Int) < (n : Int) := by omega
      clear hc
      go_enter Try.func39, Try.ntmps39
      go_upto_region 2 with fail
      have hqA := alloc_new w (.cells #[.int .i64 0, .int .i64 0, .int .i64 0, .bool false] 39)
      have hb1 := below_al w (.cells #[.int .i64 0, .int .i64 0, .int .i64 0, .bool false] 39)
      obtain ⟨w1, hw1⟩ : ∃ x, x = (w.alloc (.cells #[.int .i64 0, .int .i64 0, .int .i64 0, .bool false] 39)) := ⟨_, rfl⟩
      rw [← hw1] at hqA hb1 ⊢
      obtain ⟨A, hnA⟩ : ∃ x, x = w.heap.size := ⟨_, rfl⟩
      have HNE : Hid (w.heap.size ≤ A) := by show _ ≤ _; omega
      rw [← hnA] at hqA
      rw [show (Value.pointer (some { block := w.heap.size, off := 0 })) = Value.pointer (some { block := A, off := 0 }) by rw [hnA]]
      have HQA := hide' hqA
      have HB1 := hide' hb1
      clear hqA hb1 hw1 hnA
      have k0' := up_cell HB1.out k0
      have k1' := up_cell HB1.out k1
      have k2' := up_cell HB1.out k2
      have k3' := up_cell HB1.out k3
      clear k0 k1 k2 k3
      go_upto_region 5 with fail
      have hqX := alloc_new w1 (.cells #[.int .i64 xk, .int .i64 xn, .int .i64 xp, .bool xw] 39)
      have hbX := below_al w1 (.cells #[.int .i64 xk, .int .i64 xn, .int .i64 xp, .bool xw] 39)
      obtain ⟨w3, hw3⟩ : ∃ x, x = w1.alloc (.cells #[.int .i64 xk, .int .i64 xn, .int .i64 xp, .bool xw] 39) := ⟨_, rfl⟩
      rw [← hw3] at hqX hbX ⊢
      obtain ⟨X, hX⟩ : ∃ x, x = w1.heap.size := ⟨_, rfl⟩
      rw [← hX] at hqX
      rw [show (Value.pointer (some { block := w1.heap.size, off := 0 })) = Value.pointer (some { block := X, off := 0 }) by rw [hX]]
      have HS := hide' hqX
      have HA3 : Hid (w3.heap[A]? = some (.cells #[.int .i64 0, .int .i64 0, .int .i64 0, .bool false] 39 (0, 0))) := (hbX.block A (lt_heap HQA.out)).trans HQA.out
      have HB3 : Hid (Below w.heap.size w w3) := HB1.out.trans (hbX.mono HB1.out.size)
      have HAX : Hid (A ≠ X) := by have := lt_heap HQA.out; show _ ≠ _; omega
      have hb3d : Below w.heap.size w w3.drew := HB3.out.drew
      have HH3 := hide' (HRH.out.below hb3d (Nat.le_refl _))
      have HR3 := hide' (HRR.out.below hb3d (Nat.le_refl _))
      clear hqX hbX hw3 hX HQA HB1 k0' k1' k2' k3' hb3d HRH HRR
      refine wp_region_tail (fun W' => W'.heap[X]? = some (.cells #[.int .i64 xk, .int .i64 xn, .int .i64 xp, .bool xw] 39 (0, 0))) 11 (by kernel_rfl) ?_
      refine wpAnyD_takeAt 0 (some 25) (v := ?_) rfl (by kernel_rfl) (by kernel_rfl) (by kernel_rfl) (by kernel_rfl) (by kernel_rfl) (fun _ _ _ h => h) (by exact HS.out) (fun o hop => ?_) ?_
      rotate_left
      · injection hop with hop
        subst hop
        refine ⟨rfl, fun W hW => ?_⟩
        obtain ⟨g0, g1, g2, g3⟩ := cellsP4 hW
        have gh := HSH.out W
        have gr := HSR.out W
        go_simp
        try rfl
      try simp only [Act.put, List.setIfInBounds_toArray, List.set_cons_zero, List.set_cons_succ]
      refine wpAnyD_takeAt 1 (some 26) (v := ?_) rfl (by kernel_rfl) (by kernel_rfl) (by kernel_rfl) (by kernel_rfl) (by kernel_rfl) (fun _ _ _ h => h) (by exact HS.out) (fun o hop => ?_) ?_
      rotate_left
      · injection hop with hop
        subst hop
        refine ⟨rfl, fun W hW => ?_⟩
        obtain ⟨g0, g1, g2, g3⟩ := cellsP4 hW
        have gh := HSH.out W
        have gr := HSR.out W
        go_simp
        try rfl
      try simp only [Act.put, List.setIfInBounds_toArray, List.set_cons_zero, List.set_cons_succ]
      refine wpAnyD_takeAt 2 (some 27) (v := ?_) rfl (by kernel_rfl) (by kernel_rfl) (by kernel_rfl) (by kernel_rfl) (by kernel_rfl) (fun _ _ _ h => h) (by exact HS.out) (fun o hop => ?_) ?_
      rotate_left
      · injection hop with hop
        subst hop
        refine ⟨rfl, fun W hW => ?_⟩
        obtain ⟨g0, g1, g2, g3⟩ := cellsP4 hW
        have gh := HSH.out W
        have gr := HSR.out W
        go_simp
        try rfl
      try simp only [Act.put, List.setIfInBounds_toArray, List.set_cons_zero, List.set_cons_succ]
      refine wpAnyD_takeAt 3 (some 28) (v := ?_) rfl (by kernel_rfl) (by kernel_rfl) (by kernel_rfl) (by kernel_rfl) (by kernel_rfl) (fun _ _ _ h => h) (by exact HS.out) (fun o hop => ?_) ?_
      rotate_left
      · injection hop with hop
        subst hop
        refine ⟨rfl, fun W hW => ?_⟩
        obtain ⟨g0, g1, g2, g3⟩ := cellsP4 hW
        have gh := HSH.out W
        have gr := HSR.out W
        go_simp
        try rfl
      try simp only [Act.put, List.setIfInBounds_toArray, List.set_cons_zero, List.set_cons_succ]
      refine wpAnyD_takeAt 5 (some 30) (v := ?_) rfl (by kernel_rfl) (by kernel_rfl) (by kernel_rfl) (by kernel_rfl) (by kernel_rfl) (fun _ _ _ h => h) (by exact HS.out) (fun o hop => ?_) ?_
      rotate_left
      · injection hop with hop
        subst hop
        refine ⟨rfl, fun W hW => ?_⟩
        obtain ⟨g0, g1, g2, g3⟩ := cellsP4 hW
        have gh := HSH.out W
        have gr := HSR.out W
        go_simp
        try rfl
      try simp only [Act.put, List.setIfInBounds_toArray, List.set_cons_zero, List.set_cons_succ]
      refine wpAnyD_takeAt 6 (some 31) (v := ?_) rfl (by kernel_rfl) (by kernel_rfl) (by kernel_rfl) (by kernel_rfl) (by kernel_rfl) (fun _ _ _ h => h) (by exact HS.out) (fun o hop => ?_) ?_
      rotate_left
      · injection hop with hop
        subst hop
        refine ⟨rfl, fun W hW => ?_⟩
        obtain ⟨g0, g1, g2, g3⟩ := cellsP4 hW
        have gh := HSH.out W
        have gr := HSR.out W
        go_simp
        try rfl
      try simp only [Act.put, List.setIfInBounds_toArray, List.set_cons_zero, List.set_cons_succ]
      refine wpAnyD_takeAt 7 (some 32) (v := ?_) rfl (by kernel_rfl) (by kernel_rfl) (by kernel_rfl) (by kernel_rfl) (by kernel_rfl) (fun _ _ _ h => h) (by exact HS.out) (fun o hop => ?_) ?_
      rotate_left
      · injection hop with hop
        subst hop
        refine ⟨rfl, fun W hW => ?_⟩
        obtain ⟨g0, g1, g2, g3⟩ := cellsP4 hW
        have gh := HSH.out W
        have gr := HSR.out W
        go_simp
        try rfl
      try simp only [Act.put, List.setIfInBounds_toArray, List.set_cons_zero, List.set_cons_succ]
      refine wpAnyD_takeAt 8 (some 33) (v := ?_) rfl (by kernel_rfl) (by kernel_rfl) (by kernel_rfl) (by kernel_rfl) (by kernel_rfl) (fun _ _ _ h => h) (by exact HS.out) (fun o hop => ?_) ?_
      rotate_left
      · injection hop with hop
        subst hop
        refine ⟨rfl, fun W hW => ?_⟩
        obtain ⟨g0, g1, g2, g3⟩ := cellsP4 hW
        have gh := HSH.out W
        have gr := HSR.out W
        go_simp
        try rfl
      try simp only [Act.put, List.setIfInBounds_toArray, List.set_cons_zero, List.set_cons_succ]
      refine wpAnyT_one (i := 4) (by kernel_rfl) rfl rfl (fun K' hK => ?_)
      refine step_append_any rfl _ _ 33 rfl w3.drew.heap.size 39 i39 _ 4 32 Try.underlying33 hi39 h390 h391 h392 rfl (by decide) _ _ _ rfl (World.ownsRow_nil _ _ _ _) _ _ _ rfl HH3.out (msgs_one _) (by unfold maxLen; omega) (by omega) (Nat.le_refl _) ?_
      intro v4 w4 ho4 hg4
      have hb4 : Below w3.drew.heap.size w3.drew w4 := (Below.refl _ w3.drew).grown hg4 (Nat.le_refl _) (fun k e => by cases e)
      have HS4 : Hid (w4.heap[X]? = some (.cells #[.int .i64 xk, .int .i64 xn, .int .i64 xp, .bool xw] 39 (0, 0))) := (hb4.block X (lt_heap HS.out)).trans HS.out
      have HA4 : Hid (w4.heap[A]? = some (.cells #[.int .i64 0, .int .i64 0, .int .i64 0, .bool false] 39 (0, 0))) := (hb4.block A (lt_heap HA3.out)).trans HA3.out
      have HB4 : Hid (Below w.heap.size w w4) := HB3.out.drew.trans (hb4.mono HB3.out.drew.size)
      have HR4 := hide' (HR3.out.below hb4 (Nat.le_refl _))
      have HXL : Hid (X < w3.drew.heap.size ∧ A < w3.drew.heap.size ∧ w3.drew.heap.size ≤ w4.heap.size ∧ w.heap.size ≤ w3.drew.heap.size) := ⟨lt_heap HS.out, lt_heap HA3.out, hb4.size, HB3.out.drew.size⟩
      rw [Nat.zero_add, List.nil_append] at ho4
      obtain ⟨va4, vc4, hve4⟩ := own_slice ho4
      subst hve4
      have HO4 := hide' ho4
      refine hK.out _ _ (fun _ => HS4.out) ?_
      clear hK K' ho4 hg4 hb4 HH3 HR3 HA3 HB3
      try simp only [Act.put, List.setIfInBounds_toArray]
      refine wpAnyT_one (i := 9) (by kernel_rfl) rfl rfl (fun K' hK => ?_)
      refine step_append_any rfl _ _ 33 rfl w3.drew.heap.size 39 i39 _ 4 32 Try.underlying33 hi39 h390 h391 h392 rfl (by decide) _ _ _ rfl HO4.out _ _ _ rfl HR4.out (msgs_one _) (by unfold maxLen; omega) (by omega) HXL.out.2.2.1 ?_
      intro v5 w5 ho5 hg5
      have HB5 : Hid (Below w.heap.size w w5) := HB4.out.grown hg5 HB4.out.size (fun g hg => Nat.le_trans HXL.out.2.2.2 (own_at HO4.out g hg))
      have HS5 : Hid (w5.heap[X]? = some (.cells #[.int .i64 xk, .int .i64 xn, .int .i64 xp, .bool xw] 39 (0, 0))) := (hg5.block X (lt_heap HS4.out) (fun e => by have := own_at HO4.out X e.symm; have := HXL.out.1; omega)).trans HS4.out
      have HA5 : Hid (w5.heap[A]? = some (.cells #[.int .i64 0, .int .i64 0, .int .i64 0, .bool false] 39 (0, 0))) := (hg5.block A (lt_heap HA4.out) (fun e => by have := own_at HO4.out A e.symm; have := HXL.out.2.1; omega)).trans HA4.out
      rw [HER.out.1, HER.out.2] at ho5
      obtain ⟨va5, vc5, hve5⟩ := own_slice ho5
      subst hve5
      have HO5 := hide' ho5
      refine hK.out _ _ (fun _ => HS5.out) ?_
      clear hK K' ho5 hg5 HO4 HR4 HA4 HB4 HS4
      try simp only [Act.put]
      obtain ⟨b0, b1, b2, b3⟩ := cellsP4 HA5.out
      obtain ⟨e0, e1, e2, e3⟩ := frozenP4 HA5.out
      have HP := hide' (put4 HA5.out (.int .i64 xk) (.int .i64 xn) (.int .i64 xp) (.bool xw))
      have HRF := hide' (own_put4 HO5.out HA5.out HP.out.2 (by intro g hg; have := own_at HO5.out g hg; have := HXL.out.2.1; omega))
      have HBF := hide' (HB5.out.trans (HP.out.2.below HNE.out HB5.out.size))
      refine wpAnyT_one (i := 10) (by kernel_rfl) rfl rfl (fun K' hK => ?_)
      go_simp
      refine hK.out _ _ (fun _ => (Below.heap_setCell _ _ _ _ HAX.out.symm).trans ((Below.heap_setCell _ _ _ _ HAX.out.symm).trans ((Below.heap_setCell _ _ _ _ HAX.out.symm).trans ((Below.heap_setCell _ _ _ _ HAX.out.symm).trans HS5.out)))) ?_
      clear hK K' b0 b1 b2 b3 e0 e1 e2 e3
      try simp only [Act.put, List.setIfInBounds_toArray]
      refine wpAnyT_one (i := 11) (by kernel_rfl) rfl rfl (fun K' hK => ?_)
      go_simp
      refine hK.out _ _ (fun h => absurd rfl h) ?_
      clear hK K'
      try simp only [Act.put, List.setIfInBounds_toArray]
      refine wpAnyT_done (by kernel_rfl) ?_ _
      go_wp2
      refine bodyPost_ret (results_cell_row1 rfl _ _ A 39 _ (0, 0) _ rfl HP.out.1 Try.underlying39 rfl (by kernel_rfl)) rfl ?_
      exact ⟨_, rfl, own_mono HRF.out HXL.out.2.2.2, HBF.out⟩
    · have hc3 : ¬ ((1 : Int) < (n : Int)) := by omega
      have hc4 : decide ((1 : Int) < (n : Int)) = false := decide_eq_false hc3
      clear hc
      go_enter Try.func39, Try.ntmps39
      go_upto_region 2 with fail
      have hqA := alloc_new w (.cells #[.int .i64 0, .int .i64 0, .int .i64 0, .bool false] 39)
      have hb1 := below_al w (.cells #[.int .i64 0, .int .i64 0, .int .i64 0, .bool false] 39)
      obtain ⟨w1, hw1⟩ : ∃ x, x = (w.alloc (.cells #[.int .i64 0, .int .i64 0, .int .i64 0, .bool false] 39)) := ⟨_, rfl⟩
      rw [← hw1] at hqA hb1 ⊢
      obtain ⟨A, hnA⟩ : ∃ x, x = w.heap.size := ⟨_, rfl⟩
      have HNE : Hid (w.heap.size ≤ A) := by show _ ≤ _; omega
      rw [← hnA] at hqA
      rw [show (Value.pointer (some { block := w.heap.size, off := 0 })) = Value.pointer (some { block := A, off := 0 }) by rw [hnA]]
      have HQA := hide' hqA
      have HB1 := hide' hb1
      clear hqA hb1 hw1 hnA
      have k0' := up_cell HB1.out k0
      have k1' := up_cell HB1.out k1
      have k2' := up_cell HB1.out k2
      have k3' := up_cell HB1.out k3
      clear k0 k1 k2 k3
      go_upto_region 5 with fail
      have hqX := alloc_new w1 (.cells #[.int .i64 xk, .int .i64 xn, .int .i64 xp, .bool xw] 39)
      have hbX := below_al w1 (.cells #[.int .i64 xk, .int .i64 xn, .int .i64 xp, .bool xw] 39)
      obtain ⟨w3, hw3⟩ : ∃ x, x = w1.alloc (.cells #[.int .i64 xk, .int .i64 xn, .int .i64 xp, .bool xw] 39) := ⟨_, rfl⟩
      rw [← hw3] at hqX hbX ⊢
      obtain ⟨X, hX⟩ : ∃ x, x = w1.heap.size := ⟨_, rfl⟩
      rw [← hX] at hqX
      rw [show (Value.pointer (some { block := w1.heap.size, off := 0 })) = Value.pointer (some { block := X, off := 0 }) by rw [hX]]
      have HS := hide' hqX
      have HA3 : Hid (w3.heap[A]? = some (.cells #[.int .i64 0, .int .i64 0, .int .i64 0, .bool false] 39 (0, 0))) := (hbX.block A (lt_heap HQA.out)).trans HQA.out
      have HB3 : Hid (Below w.heap.size w w3) := HB1.out.trans (hbX.mono HB1.out.size)
      have HAX : Hid (A ≠ X) := by have := lt_heap HQA.out; show _ ≠ _; omega
      have hb3d : Below w.heap.size w w3.drew := HB3.out.drew
      have HH3 := hide' (HRH.out.below hb3d (Nat.le_refl _))
      have HR3 := hide' (HRR.out.below hb3d (Nat.le_refl _))
      clear hqX hbX hw3 hX HQA HB1 k0' k1' k2' k3' hb3d HRH HRR
      refine wp_region_tail (fun W' => W'.heap[X]? = some (.cells #[.int .i64 xk, .int .i64 xn, .int .i64 xp, .bool xw] 39 (0, 0))) 11 (by kernel_rfl) ?_
      refine wpAnyD_takeAt 0 (some 25) (v := ?_) rfl (by kernel_rfl) (by kernel_rfl) (by kernel_rfl) (by kernel_rfl) (by kernel_rfl) (fun _ _ _ h => h) (by exact HS.out) (fun o hop => ?_) ?_
      rotate_left
      · injection hop with hop
        subst hop
        refine ⟨rfl, fun W hW => ?_⟩
        obtain ⟨g0, g1, g2, g3⟩ := cellsP4 hW
        have gh := HSH.out W
        have gr := HSR.out W
        go_simp
        try rfl
      try simp only [Act.put, List.setIfInBounds_toArray, List.set_cons_zero, List.set_cons_succ]
      refine wpAnyD_takeAt 1 (some 26) (v := ?_) rfl (by kernel_rfl) (by kernel_rfl) (by kernel_rfl) (by kernel_rfl) (by kernel_rfl) (fun _ _ _ h => h) (by exact HS.out) (fun o hop => ?_) ?_
      rotate_left
      · injection hop with hop
        subst hop
        refine ⟨rfl, fun W hW => ?_⟩
        obtain ⟨g0, g1, g2, g3⟩ := cellsP4 hW
        have gh := HSH.out W
        have gr := HSR.out W
        go_simp
        try rfl
      try simp only [Act.put, List.setIfInBounds_toArray, List.set_cons_zero, List.set_cons_succ]
      refine wpAnyD_takeAt 2 (some 27) (v := ?_) rfl (by kernel_rfl) (by kernel_rfl) (by kernel_rfl) (by kernel_rfl) (by kernel_rfl) (fun _ _ _ h => h) (by exact HS.out) (fun o hop => ?_) ?_
      rotate_left
      · injection hop with hop
        subst hop
        refine ⟨rfl, fun W hW => ?_⟩
        obtain ⟨g0, g1, g2, g3⟩ := cellsP4 hW
        have gh := HSH.out W
        have gr := HSR.out W
        go_simp
        try rfl
      try simp only [Act.put, List.setIfInBounds_toArray, List.set_cons_zero, List.set_cons_succ]
      refine wpAnyD_takeAt 3 (some 28) (v := ?_) rfl (by kernel_rfl) (by kernel_rfl) (by kernel_rfl) (by kernel_rfl) (by kernel_rfl) (fun _ _ _ h => h) (by exact HS.out) (fun o hop => ?_) ?_
      rotate_left
      · injection hop with hop
        subst hop
        refine ⟨rfl, fun W hW => ?_⟩
        obtain ⟨g0, g1, g2, g3⟩ := cellsP4 hW
        have gh := HSH.out W
        have gr := HSR.out W
        go_simp
        try rfl
      try simp only [Act.put, List.setIfInBounds_toArray, List.set_cons_zero, List.set_cons_succ]
      refine wpAnyD_takeAt 5 (some 30) (v := ?_) rfl (by kernel_rfl) (by kernel_rfl) (by kernel_rfl) (by kernel_rfl) (by kernel_rfl) (fun _ _ _ h => h) (by exact HS.out) (fun o hop => ?_) ?_
      rotate_left
      · injection hop with hop
        subst hop
        refine ⟨rfl, fun W hW => ?_⟩
        obtain ⟨g0, g1, g2, g3⟩ := cellsP4 hW
        have gh := HSH.out W
        have gr := HSR.out W
        go_simp
        try rfl
      try simp only [Act.put, List.setIfInBounds_toArray, List.set_cons_zero, List.set_cons_succ]
      refine wpAnyD_takeAt 6 (some 31) (v := ?_) rfl (by kernel_rfl) (by kernel_rfl) (by kernel_rfl) (by kernel_rfl) (by kernel_rfl) (fun _ _ _ h => h) (by exact HS.out) (fun o hop => ?_) ?_
      rotate_left
      · injection hop with hop
        subst hop
        refine ⟨rfl, fun W hW => ?_⟩
        obtain ⟨g0, g1, g2, g3⟩ := cellsP4 hW
        have gh := HSH.out W
        have gr := HSR.out W
        go_simp
        try rfl
      try simp only [Act.put, List.setIfInBounds_toArray, List.set_cons_zero, List.set_cons_succ]
      refine wpAnyD_takeAt 7 (some 32) (v := ?_) rfl (by kernel_rfl) (by kernel_rfl) (by kernel_rfl) (by kernel_rfl) (by kernel_rfl) (fun _ _ _ h => h) (by exact HS.out) (fun o hop => ?_) ?_
      rotate_left
      · injection hop with hop
        subst hop
        refine ⟨rfl, fun W hW => ?_⟩
        obtain ⟨g0, g1, g2, g3⟩ := cellsP4 hW
        have gh := HSH.out W
        have gr := HSR.out W
        go_simp
        try rfl
      try simp only [Act.put, List.setIfInBounds_toArray, List.set_cons_zero, List.set_cons_succ]
      refine wpAnyD_takeAt 8 (some 33) (v := ?_) rfl (by kernel_rfl) (by kernel_rfl) (by kernel_rfl) (by kernel_rfl) (by kernel_rfl) (fun _ _ _ h => h) (by exact HS.out) (fun o hop => ?_) ?_
      rotate_left
      · injection hop with hop
        subst hop
        refine ⟨rfl, fun W hW => ?_⟩
        obtain ⟨g0, g1, g2, g3⟩ := cellsP4 hW
        have gh := HSH.out W
        have gr := HSR.out W
        go_simp
        try rfl
      try simp only [Act.put, List.setIfInBounds_toArray, List.set_cons_zero, List.set_cons_succ]
      refine wpAnyT_one (i := 4) (by kernel_rfl) rfl rfl (fun K' hK => ?_)
      refine step_append_any rfl _ _ 33 rfl w3.drew.heap.size 39 i39 _ 4 32 Try.underlying33 hi39 h390 h391 h392 rfl (by decide) _ _ _ rfl (World.ownsRow_nil _ _ _ _) _ _ _ rfl HH3.out (msgs_one _) (by unfold maxLen; omega) (by omega) (Nat.le_refl _) ?_
      intro v4 w4 ho4 hg4
      have hb4 : Below w3.drew.heap.size w3.drew w4 := (Below.refl _ w3.drew).grown hg4 (Nat.le_refl _) (fun k e => by cases e)
      have HS4 : Hid (w4.heap[X]? = some (.cells #[.int .i64 xk, .int .i64 xn, .int .i64 xp, .bool xw] 39 (0, 0))) := (hb4.block X (lt_heap HS.out)).trans HS.out
      have HA4 : Hid (w4.heap[A]? = some (.cells #[.int .i64 0, .int .i64 0, .int .i64 0, .bool false] 39 (0, 0))) := (hb4.block A (lt_heap HA3.out)).trans HA3.out
      have HB4 : Hid (Below w.heap.size w w4) := HB3.out.drew.trans (hb4.mono HB3.out.drew.size)
      have HR4 := hide' (HR3.out.below hb4 (Nat.le_refl _))
      have HXL : Hid (X < w3.drew.heap.size ∧ A < w3.drew.heap.size ∧ w3.drew.heap.size ≤ w4.heap.size ∧ w.heap.size ≤ w3.drew.heap.size) := ⟨lt_heap HS.out, lt_heap HA3.out, hb4.size, HB3.out.drew.size⟩
      rw [Nat.zero_add, List.nil_append] at ho4
      obtain ⟨va4, vc4, hve4⟩ := own_slice ho4
      subst hve4
      have HO4 := hide' ho4
      refine hK.out _ _ (fun _ => HS4.out) ?_
      clear hK K' ho4 hg4 hb4 HH3 HR3 HA3 HB3
      try simp only [Act.put, List.setIfInBounds_toArray]
      refine wpAnyT_one (i := 9) (by kernel_rfl) rfl rfl (fun K' hK => ?_)
      refine step_append_any rfl _ _ 33 rfl w3.drew.heap.size 39 i39 _ 4 32 Try.underlying33 hi39 h390 h391 h392 rfl (by decide) _ _ _ rfl HO4.out _ _ _ rfl HR4.out (msgs_one _) (by unfold maxLen; omega) (by omega) HXL.out.2.2.1 ?_
      intro v5 w5 ho5 hg5
      have HB5 : Hid (Below w.heap.size w w5) := HB4.out.grown hg5 HB4.out.size (fun g hg => Nat.le_trans HXL.out.2.2.2 (own_at HO4.out g hg))
      have HS5 : Hid (w5.heap[X]? = some (.cells #[.int .i64 xk, .int .i64 xn, .int .i64 xp, .bool xw] 39 (0, 0))) := (hg5.block X (lt_heap HS4.out) (fun e => by have := own_at HO4.out X e.symm; have := HXL.out.1; omega)).trans HS4.out
      have HA5 : Hid (w5.heap[A]? = some (.cells #[.int .i64 0, .int .i64 0, .int .i64 0, .bool false] 39 (0, 0))) := (hg5.block A (lt_heap HA4.out) (fun e => by have := own_at HO4.out A e.symm; have := HXL.out.2.1; omega)).trans HA4.out
      rw [HER.out.1, HER.out.2] at ho5
      obtain ⟨va5, vc5, hve5⟩ := own_slice ho5
      subst hve5
      have HO5 := hide' ho5
      refine hK.out _ _ (fun _ => HS5.out) ?_
      clear hK K' ho5 hg5 HO4 HR4 HA4 HB4 HS4
      try simp only [Act.put]
      obtain ⟨b0, b1, b2, b3⟩ := cellsP4 HA5.out
      obtain ⟨e0, e1, e2, e3⟩ := frozenP4 HA5.out
      have HP := hide' (put4 HA5.out (.int .i64 xk) (.int .i64 xn) (.int .i64 xp) (.bool xw))
      have HRF := hide' (own_put4 HO5.out HA5.out HP.out.2 (by intro g hg; have := own_at HO5.out g hg; have := HXL.out.2.1; omega))
      have HBF := hide' (HB5.out.trans (HP.out.2.below HNE.out HB5.out.size))
      refine wpAnyT_one (i := 10) (by kernel_rfl) rfl rfl (fun K' hK => ?_)
      go_simp
      refine hK.out _ _ (fun _ => (Below.heap_setCell _ _ _ _ HAX.out.symm).trans ((Below.heap_setCell _ _ _ _ HAX.out.symm).trans ((Below.heap_setCell _ _ _ _ HAX.out.symm).trans ((Below.heap_setCell _ _ _ _ HAX.out.symm).trans HS5.out)))) ?_
      clear hK K' b0 b1 b2 b3 e0 e1 e2 e3
      try simp only [Act.put, List.setIfInBounds_toArray]
      refine wpAnyT_one (i := 11) (by kernel_rfl) rfl rfl (fun K' hK => ?_)
      go_simp
      refine hK.out _ _ (fun h => absurd rfl h) ?_
      clear hK K'
      try simp only [Act.put, List.setIfInBounds_toArray]
      refine wpAnyT_done (by kernel_rfl) ?_ _
      go_wp2
      refine bodyPost_ret (results_cell_row1 rfl _ _ A 39 _ (0, 0) _ rfl HP.out.1 Try.underlying39 rfl (by kernel_rfl)) rfl ?_
      exact ⟨_, rfl, own_mono HRF.out HXL.out.2.2.2, HBF.out⟩
end Go.Proofs.Ytjhmendiefojoam
