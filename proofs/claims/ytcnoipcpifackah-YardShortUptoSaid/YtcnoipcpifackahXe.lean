/- A row is turned about. -/
import Derived.Test.YtcnoipcpifackahXd
import Derived.Test.YtcnoipcpifackahYt
namespace Go.Proofs.Ytcnoipcpifackah
open Go.RowKit Go.Shelf

/-- While a row is turned about: i of it at both ends are done. -/
structure RevI (l o : List Int) (i : Nat) : Prop where
  len : o.length = l.length
  at' : ∀ p, p < l.length → o.getD p 0 = if p < i ∨ l.length - i ≤ p then l.getD (l.length - 1 - p) 0 else l.getD p 0
theorem RevI.start (l : List Int) : RevI l l 0 := ⟨rfl, fun p hp => by rw [if_neg (by omega)]⟩
theorem set_getI (l : List Int) (p q : Nat) (x : Int) (hp : p < l.length) : (l.set p x).getD q 0 = if q = p then x else l.getD q 0 := by
  rw [List.getD_eq_getElem?_getD, List.getD_eq_getElem?_getD]
  by_cases e : q = p
  · subst e
    rw [if_pos rfl, List.getElem?_set_self hp]
    rfl
  · rw [if_neg e, List.getElem?_set_ne (Ne.symm e)]
theorem RevI.next {l o : List Int} {i : Nat} (h : RevI l o i) (hi : 2 * i + 1 < l.length) : RevI l ((o.set i (o.getD (l.length - 1 - i) 0)).set (l.length - 1 - i) (o.getD i 0)) (i + 1) := by
  have hl := h.len
  have h1 := h.at' i (by omega)
  have h2 := h.at' (l.length - 1 - i) (by omega)
  rw [if_neg (by omega)] at h1 h2
  refine ⟨by rw [List.length_set, List.length_set]; exact hl, fun p hp => ?_⟩
  rw [set_getI _ _ _ _ (by rw [List.length_set]; omega), set_getI _ _ _ _ (by omega), h1, h2, h.at' p hp]
  by_cases e1 : p = l.length - 1 - i
  · rw [if_pos e1, if_pos (by omega), e1, show l.length - 1 - (l.length - 1 - i) = i by omega]
  · rw [if_neg e1]
    by_cases e2 : p = i
    · rw [if_pos e2, if_pos (by omega), e2]
    · rw [if_neg e2]
      by_cases e3 : p < i ∨ l.length - i ≤ p
      · rw [if_pos e3, if_pos (by omega)]
      · rw [if_neg e3, if_neg (by omega)]
theorem RevI.fin {l o : List Int} {i : Nat} (h : RevI l o i) (hi : l.length ≤ 2 * i + 1) : o = l.reverse := by
  have hl := h.len
  apply List.ext_getElem (by rw [List.length_reverse]; exact hl)
  intro p h1 h2
  have hp : p < l.length := by omega
  have e := h.at' p hp
  rw [List.getD_eq_getElem?_getD, List.getElem?_eq_getElem h1] at e
  have e2 : l.reverse[p] = l.getD (l.length - 1 - p) 0 := by
    rw [List.getElem_reverse, List.getD_eq_getElem?_getD, List.getElem?_eq_getElem (by omega)]
    rfl
  rw [e2]
  refine Eq.trans (show o[p] = _ from e) ?_
  by_cases e3 : p < i ∨ l.length - i ≤ p
  · rw [if_pos e3]
  · rw [if_neg e3, show l.length - 1 - p = p by omega]
section
variable {P : Program} {ops : Array Oper} {Q : Exit → Act → World → Prop} {md : Region.Mode} {S : World → Prop} {t0 t1 : Nat}
theorem wpAnyV_weak : ∀ (fuel : Nat) (listed : Array Bool) (a : Act) (w : World), wpAnyV P md ops Q S t0 fuel listed a w → wpAnyV P md ops Q (fun _ => True) t1 fuel listed a w
  | 0, _, _, _, h => h
  | fuel + 1, _, _, _, h => ⟨h.1, fun i hi => wpOp_mono (fun a' w' h' => ⟨fun _ => trivial, wpAnyV_weak fuel _ a' w' h'.2⟩) (h.2 i hi)⟩
end
theorem own_frozen {w : World} {B e sz n c G : Nat} {xs : List Value} (h : w.ownsRow B e sz (.slice (some ⟨G, 0, none⟩) n c) n xs) (j : Nat) : w.frozen? ⟨G, j, none⟩ = false := by
  rcases h.2 with ⟨e, _⟩ | ⟨g, cp, cur, e, _, hg, _⟩
  · cases e
  · cases e
    exact frozen_no hg _
set_option maxRecDepth 100000 in
set_option maxHeartbeats 4000000 in
theorem reverse_any (l : List Int) (B G c : Nat) (w : World) (h : w.ownsRow B 3 1 (.slice (some ⟨G, 0, none⟩) l.length c) l.length (ints l)) (hn : l.length ≤ 100000) (PQ : Ending → World → Prop) (hPQ : ∀ w', w'.ownsRow B 3 1 (.slice (some ⟨G, 0, none⟩) l.length c) l.length (ints l.reverse) → Below B w w' → PQ (.returned (.tuple #[])) w') : Calls Try.prog 56 #[.slice (some ⟨G, 0, none⟩) l.length c] w PQ := by
  have HO := hide' h
  have HPQ := hide' hPQ
  clear h hPQ
  go_enter Try.func56, Try.ntmps56
  go_wp2_with fail
  go_loopw [2, 3] (fun iv jv wr => ∃ (i : Nat) (o : List Int), iv = .int .i64 i ∧ jv = .int .i64 ((l.length : Int) - 1 - (i : Int)) ∧ i ≤ l.length ∧ Hid (RevI l o i) ∧ Hid (wr.ownsRow B 3 1 (.slice (some ⟨G, 0, none⟩) l.length c) l.length (ints o) ∧ Below B w wr)) (fun iv _ _ => l.length - (intOf iv).toNat)
  case atStart => exact ⟨0, l, rfl, by first | rfl | (congr 1; omega), Nat.zero_le _, RevI.start l, HO.out, Below.refl _ w⟩
  case round =>
    clear HO
    obtain ⟨i, o, rfl, rfl, hi, HR, HW⟩ := hrel
    by_cases hlt : 2 * i + 1 < l.length
    · obtain ⟨j, hj⟩ : ∃ j, j = l.length - 1 - i := ⟨_, rfl⟩
      have HJI : Hid ((l.length : Int) - 1 - (i : Int) = (j : Int)) := by show _ = _; omega
      rw [HJI.out]
      have HJ2 : Hid ((j : Int) - 1 = (l.length : Int) - 1 - ((i + 1 : Nat) : Int)) := by show _ = _; omega
      have hij : i < j := by omega
      have hjl : j < l.length := by omega
      have HNX := hide' (HR.out.next hlt)
      rw [← hj] at HNX
      have hol := HR.out.len
      obtain ⟨b1, o1, c1, ex1, m1⟩ := ints_cell2 (rowAt_of_own HW.out.1) i (by omega)
      obtain ⟨b2, o2, c2, ex2, m2⟩ := ints_cell2 (rowAt_of_own HW.out.1) j (by omega)
      simp only [Value.slice.injEq, Option.some.injEq, Addr.mk.injEq] at ex1 ex2
      obtain ⟨⟨rfl, rfl, _⟩, _, rfl⟩ := ex1
      obtain ⟨⟨rfl, rfl, _⟩, _, rfl⟩ := ex2
      rw [Nat.zero_add] at m1 m2
      have HS : Hid (wr.drew.cell? ⟨G, i, none⟩ = some (.int .i64 (o.getD i 0)) ∧ wr.drew.cell? ⟨G, j, none⟩ = some (.int .i64 (o.getD j 0))) := ⟨m1, m2⟩
      have HOW : Hid (∀ x y, ((wr.drew.setCell ⟨G, i, none⟩ (.int .i64 x)).setCell ⟨G, j, none⟩ (.int .i64 y)).ownsRow B 3 1 (.slice (some ⟨G, 0, none⟩) l.length c) l.length (ints ((o.set i x).set j y)) ∧ Below B w ((wr.drew.setCell ⟨G, i, none⟩ (.int .i64 x)).setCell ⟨G, j, none⟩ (.int .i64 y))) := fun x y => by
        have h0 : wr.drew.ownsRow B 3 1 (.slice (some ⟨G, 0, none⟩) l.length c) l.length (ints o) := HW.out.1
        have hG := own_at HW.out.1 G rfl
        exact ⟨own_int_set (own_int_set h0 (by omega) x) (by omega) y, ((HW.out.2.drew).setCell (p := ⟨G, i, none⟩) hG _).setCell (p := ⟨G, j, none⟩) hG _⟩
      have f1 : wr.frozen? ⟨G, i, none⟩ = false := own_frozen HW.out.1 i
      have f2 : wr.frozen? ⟨G, j, none⟩ = false := own_frozen HW.out.1 j
      have e1 : wr.cell? ⟨G, i, none⟩ = some (.int .i64 (o.getD i 0)) := m1
      have e2 : wr.cell? ⟨G, j, none⟩ = some (.int .i64 (o.getD j 0)) := m2
      obtain ⟨x, hx⟩ : ∃ x, x = o.getD i 0 := ⟨_, rfl⟩
      obtain ⟨y, hy⟩ : ∃ y, y = o.getD j 0 := ⟨_, rfl⟩
      rw [← hx, ← hy] at HS HNX
      rw [← hx] at e1
      rw [← hy] at e2
      clear hx hy m1 m2 HW HR hj hol
      go_upto_region 3 with fail
      refine wp_region_V (fun _ => True) 14 (by kernel_rfl) ?_
      refine wpAnyV_takeAt 2 (some 16) (v := ?_) rfl (by kernel_rfl) (by kernel_rfl) (by kernel_rfl) (by kernel_rfl) (by kernel_rfl) (fun _ _ _ h => h) trivial (fun o hop => ?_) ?_
      rotate_left
      · injection hop with hop
        subst hop
        refine ⟨rfl, fun W hW => ?_⟩
        go_simp
        first
        | rfl
        | rw [if_pos (by omega)]
        | (constructor <;> rfl)
      try simp only [Act.put, List.setIfInBounds_toArray, List.set_cons_zero, List.set_cons_succ]
      refine wpAnyV_takeAt 3 (some 17) (v := ?_) rfl (by kernel_rfl) (by kernel_rfl) (by kernel_rfl) (by kernel_rfl) (by kernel_rfl) (fun _ _ _ h => h) trivial (fun o hop => ?_) ?_
      rotate_left
      · injection hop with hop
        subst hop
        refine ⟨rfl, fun W hW => ?_⟩
        go_simp
        first
        | rfl
        | rw [if_pos (by omega)]
        | (constructor <;> rfl)
      try simp only [Act.put, List.setIfInBounds_toArray, List.set_cons_zero, List.set_cons_succ]
      refine wpAnyV_weak (S := fun W => W.cell? ⟨G, i, none⟩ = some (.int .i64 x) ∧ W.cell? ⟨G, j, none⟩ = some (.int .i64 y)) (t0 := 12) _ _ _ _ ?_
      refine wpAnyV_takeAt 0 (some 14) (v := ?_) rfl (by kernel_rfl) (by kernel_rfl) (by kernel_rfl) (by kernel_rfl) (by kernel_rfl) (fun _ _ _ h => h) (by exact HS.out) (fun o hop => ?_) ?_
      rotate_left
      · injection hop with hop
        subst hop
        refine ⟨rfl, fun W hW => ?_⟩
        obtain ⟨s0, s1⟩ := hW
        go_simp
        first
        | rfl
        | rw [if_pos (by omega)]
        | (constructor <;> rfl)
      try simp only [Act.put, List.setIfInBounds_toArray, List.set_cons_zero, List.set_cons_succ]
      refine wpAnyV_takeAt 1 (some 15) (v := ?_) rfl (by kernel_rfl) (by kernel_rfl) (by kernel_rfl) (by kernel_rfl) (by kernel_rfl) (fun _ _ _ h => h) (by exact HS.out) (fun o hop => ?_) ?_
      rotate_left
      · injection hop with hop
        subst hop
        refine ⟨rfl, fun W hW => ?_⟩
        obtain ⟨s0, s1⟩ := hW
        go_simp
        first
        | rfl
        | rw [if_pos (by omega)]
        | (constructor <;> rfl)
      try simp only [Act.put, List.setIfInBounds_toArray, List.set_cons_zero, List.set_cons_succ]
      refine wpAnyV_takeAt 4 (some 18) (v := ?_) rfl (by kernel_rfl) (by kernel_rfl) (by kernel_rfl) (by kernel_rfl) (by kernel_rfl) (fun _ _ _ h => h) (by exact HS.out) (fun o hop => ?_) ?_
      rotate_left
      · injection hop with hop
        subst hop
        refine ⟨rfl, fun W hW => ?_⟩
        obtain ⟨s0, s1⟩ := hW
        go_simp
        first
        | rfl
        | rw [if_pos (by omega)]
        | (constructor <;> rfl)
      try simp only [Act.put, List.setIfInBounds_toArray, List.set_cons_zero, List.set_cons_succ]
      refine wpAnyV_takeAt 5 (some 19) (v := ?_) rfl (by kernel_rfl) (by kernel_rfl) (by kernel_rfl) (by kernel_rfl) (by kernel_rfl) (fun _ _ _ h => h) (by exact HS.out) (fun o hop => ?_) ?_
      rotate_left
      · injection hop with hop
        subst hop
        refine ⟨rfl, fun W hW => ?_⟩
        obtain ⟨s0, s1⟩ := hW
        go_simp
        first
        | rfl
        | rw [if_pos (by omega)]
        | (constructor <;> rfl)
      try simp only [Act.put, List.setIfInBounds_toArray, List.set_cons_zero, List.set_cons_succ]
      refine wpAnyV_takeAt 6 (some 20) (v := ?_) rfl (by kernel_rfl) (by kernel_rfl) (by kernel_rfl) (by kernel_rfl) (by kernel_rfl) (fun _ _ _ h => h) (by exact HS.out) (fun o hop => ?_) ?_
      rotate_left
      · injection hop with hop
        subst hop
        refine ⟨rfl, fun W hW => ?_⟩
        obtain ⟨s0, s1⟩ := hW
        go_simp
        first
        | rfl
        | rw [if_pos (by omega)]
        | (constructor <;> rfl)
      try simp only [Act.put, List.setIfInBounds_toArray, List.set_cons_zero, List.set_cons_succ]
      refine wpAnyV_takeAt 7 (some 21) (v := ?_) rfl (by kernel_rfl) (by kernel_rfl) (by kernel_rfl) (by kernel_rfl) (by kernel_rfl) (fun _ _ _ h => h) (by exact HS.out) (fun o hop => ?_) ?_
      rotate_left
      · injection hop with hop
        subst hop
        refine ⟨rfl, fun W hW => ?_⟩
        obtain ⟨s0, s1⟩ := hW
        go_simp
        first
        | rfl
        | rw [if_pos (by omega)]
        | (constructor <;> rfl)
      try simp only [Act.put, List.setIfInBounds_toArray, List.set_cons_zero, List.set_cons_succ]
      refine wpAnyV_takeAt 8 (some 22) (v := ?_) rfl (by kernel_rfl) (by kernel_rfl) (by kernel_rfl) (by kernel_rfl) (by kernel_rfl) (fun _ _ _ h => h) (by exact HS.out) (fun o hop => ?_) ?_
      rotate_left
      · injection hop with hop
        subst hop
        refine ⟨rfl, fun W hW => ?_⟩
        obtain ⟨s0, s1⟩ := hW
        go_simp
        first
        | rfl
        | rw [if_pos (by omega)]
        | (constructor <;> rfl)
      try simp only [Act.put, List.setIfInBounds_toArray, List.set_cons_zero, List.set_cons_succ]
      refine wpAnyV_takeAt 9 (some 23) (v := ?_) rfl (by kernel_rfl) (by kernel_rfl) (by kernel_rfl) (by kernel_rfl) (by kernel_rfl) (fun _ _ _ h => h) (by exact HS.out) (fun o hop => ?_) ?_
      rotate_left
      · injection hop with hop
        subst hop
        refine ⟨rfl, fun W hW => ?_⟩
        obtain ⟨s0, s1⟩ := hW
        go_simp
        first
        | rfl
        | rw [if_pos (by omega)]
        | (constructor <;> rfl)
      try simp only [Act.put, List.setIfInBounds_toArray, List.set_cons_zero, List.set_cons_succ]
      refine wpAnyV_takeAt 10 (some 24) (v := ?_) rfl (by kernel_rfl) (by kernel_rfl) (by kernel_rfl) (by kernel_rfl) (by kernel_rfl) (fun _ _ _ h => h) (by exact HS.out) (fun o hop => ?_) ?_
      rotate_left
      · injection hop with hop
        subst hop
        refine ⟨rfl, fun W hW => ?_⟩
        obtain ⟨s0, s1⟩ := hW
        go_simp
        first
        | rfl
        | rw [if_pos (by omega)]
        | (constructor <;> rfl)
      try simp only [Act.put, List.setIfInBounds_toArray, List.set_cons_zero, List.set_cons_succ]
      refine wpAnyV_takeAt 11 (some 25) (v := ?_) rfl (by kernel_rfl) (by kernel_rfl) (by kernel_rfl) (by kernel_rfl) (by kernel_rfl) (fun _ _ _ h => h) (by exact HS.out) (fun o hop => ?_) ?_
      rotate_left
      · injection hop with hop
        subst hop
        refine ⟨rfl, fun W hW => ?_⟩
        obtain ⟨s0, s1⟩ := hW
        go_simp
        first
        | rfl
        | rw [if_pos (by omega)]
        | (constructor <;> rfl)
      try simp only [Act.put, List.setIfInBounds_toArray, List.set_cons_zero, List.set_cons_succ]
      refine wpAnyV_one (i := 12) (by kernel_rfl) rfl rfl (fun K' hK => ?_)
      go_simp
      try rw [if_pos (by omega)]
      refine hK.out _ _ (fun h => absurd h (by decide)) ?_
      clear hK K'
      try simp only [Act.put, List.setIfInBounds_toArray, List.set_cons_zero, List.set_cons_succ]
      refine wpAnyV_one (i := 13) (by kernel_rfl) rfl rfl (fun K' hK => ?_)
      go_simp
      refine hK.out _ _ (fun h => absurd h (by decide)) ?_
      clear hK K'
      try simp only [Act.put, List.setIfInBounds_toArray, List.set_cons_zero, List.set_cons_succ]
      refine wpAnyV_one (i := 14) (by kernel_rfl) rfl rfl (fun K' hK => ?_)
      go_simp
      try rw [if_pos (by omega)]
      refine hK.out _ _ (fun h => absurd h (by decide)) ?_
      clear hK K'
      try simp only [Act.put, List.setIfInBounds_toArray, List.set_cons_zero, List.set_cons_succ]
      refine wpAnyV_one (i := 15) (by kernel_rfl) rfl rfl (fun K' hK => ?_)
      go_simp
      refine hK.out _ _ (fun h => absurd h (by decide)) ?_
      clear hK K'
      try simp only [Act.put, List.setIfInBounds_toArray, List.set_cons_zero, List.set_cons_succ]
      refine wpAnyV_done (by kernel_rfl) ?_ _
      go_wp2_with fail
      go_roundw
      case rel => exact ⟨i + 1, _, by go_num, by rw [HJ2.out], by omega, HNX.out, HOW.out _ _⟩
      case measure => simp only [intOf]; omega
    · have HE := hide' (HR.out.fin (by omega))
      have hji : ¬ (i : Int) < (l.length : Int) - 1 - (i : Int) := by omega
      have HWE := hide' HW.out
      rw [HE.out] at HWE
      clear HR HW
      go_wp2_with fail
      refine bodyPost_ret (results_none rfl _ _ _) rfl ?_
      exact HPQ.out _ HWE.out.1 HWE.out.2
end Go.Proofs.Ytcnoipcpifackah
