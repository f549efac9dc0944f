/- Units and hours made of raw numbers. -/
import Derived.Test.YtlbeecjkfakkpagCk
namespace Go.Proofs.Ytlbeecjkfakkpag
open Go.RowKit Go.Shelf

theorem tmod_within (a : Int) (f : Nat) (ha : 0 ≤ a) (hf : 0 < f) : ∃ p : Nat, a.tmod f = p ∧ p < f := by
  have h1 := Int.tmod_nonneg (f : Int) ha
  have h2 := Int.tmod_lt_of_pos a (show (0 : Int) < f by omega)
  exact ⟨(a.tmod f).toNat, (Int.toNat_of_nonneg h1).symm, by omega⟩
theorem picked_is (n : Int) (f : Nat) (h : I6 n) (hf : 0 < f) (hf1 : f ≤ 1000) :
    ∃ p : Nat, p < f ∧ ∀ w : World, Calls Try.prog 21 #[.int .i64 n, .int .i64 f] w fun e w' => e = .returned (.int .i64 (p : Int)) ∧ w' = w := by
  obtain ⟨h0, h1⟩ := h
  have hf0 : ((f : Int) == 0) = false := by simp; omega
  by_cases hn : n < 0
  · obtain ⟨p, hp, hlt⟩ := tmod_within (-(n + 1)) f (by omega) hf
    rw [Int.neg_tmod] at hp
    refine ⟨p, hlt, fun w => ?_⟩
    go_enter Try.func21, Try.ntmps21
    go_wp2
    go_ret
    exact ⟨by first | rfl | rw [hp], rfl⟩
  · obtain ⟨p, hp, hlt⟩ := tmod_within n f (by omega) hf
    refine ⟨p, hlt, fun w => ?_⟩
    go_enter Try.func21, Try.ntmps21
    go_wp2
    go_ret
    exact ⟨by first | rfl | rw [hp], rfl⟩
set_option maxRecDepth 100000 in
set_option maxHeartbeats 2000000 in
theorem hoursFrom_any (raw : List Int) (n f : Nat) (v : Value) (w : World) (hx : RowAt w v raw.length 1 (ints raw)) (hI : ∀ x ∈ raw, I6 x) (hl : raw.length ≤ 2000000) (hn : n ≤ 100) (hf : 0 < f) (hf1 : f ≤ 1000) :
    Calls Try.prog 22 #[v, .int .i64 n, .int .i64 f] w fun e w' => ∃ (l : List Int) (v' : Value), e = .returned v' ∧ l.length = n ∧ InR l ∧ RowAt w' v' n 1 (ints l) ∧ Below w.heap.size w w' := by
  obtain ⟨i0, hi0, hzz0, hzz1, hzz2⟩ := info_parts Try.info3
  have HX := hide' hx
  have HI := hide' hI
  obtain ⟨ag, cg, rfl⟩ := rowAt_slice hx
  clear hx hI
  go_enter Try.func22, Try.ntmps22
  go_wp2_with fail
  go_loopw [7, 8] (fun lv iv wr => ∃ (k : Nat) (l : List Int), iv = .int .i64 k ∧ k ≤ n ∧ l.length = k ∧ Hid (InR l) ∧ Hid (wr.ownsRow w.heap.size 3 1 lv l.length (l.map (Value.int .i64))) ∧ Hid (Below w.heap.size w wr)) (fun _ iv _ => n - (intOf iv).toNat)
  case atStart => exact ⟨0, [], rfl, Nat.zero_le _, rfl, fun i h => absurd h (Nat.not_lt_zero i), World.ownsRow_nil _ _ _ _, Below.refl _ w⟩
  case round =>
    obtain ⟨k, l, rfl, hk, hlk, HR, HOWN, HBE⟩ := hrel
    have HRN : Hid (∀ x : Int, 0 ≤ x → x ≤ 400000 → InR (l ++ [x])) := fun x h0 h1 i hi => by
      rw [List.length_append, List.length_singleton] at hi
      by_cases e : i < l.length
      · rw [getD_snoc_lt e]; exact HR.out i e
      · rw [show i = l.length by omega, getD_snoc_eq]; exact ⟨h0, h1⟩
    by_cases hlt : k < n
    · by_cases hkr : k < raw.length
      · obtain ⟨bt, ot, ct', ex, hct⟩ := ints_cell2 HX.out k hkr
        cases ex
        have d0 := (HBE.out.cell (World.block_lt_of_cell? w _ hct)).trans hct
        have hxI := HI.out _ (getD_in hkr).2
        obtain ⟨x, hx⟩ : ∃ x, x = raw.getD k 0 := ⟨_, rfl⟩
        rw [← hx] at d0 hxI
        obtain ⟨p, hp, hpc⟩ := picked_is x f hxI hf hf1
        have HPC := hide' hpc
        have HN2 := hide' (HRN.out (p : Int) (by omega) (by omega))
        clear hct hpc hx hxI
        go_wp2_with fail
        refine (HPC.out _).mono ?_
        rintro e w' ⟨rfl, rfl⟩
        go_wp2_with (at_builtin; refine wpList_append_own _ rfl _ _ 24 rfl w.heap.size 3 i0 (.int .i64 0) 1 8 Try.underlying24 hi0 hzz0 hzz1 hzz2 rfl (by decide) _ _ _ rfl (HOWN.out.alloc _) ⟨w'.heap.size, 0, none⟩ 1 1 [.int .i64 p] rfl rfl (cell_one_new _ _ _) (one_cell rfl) (by unfold maxLen; omega) (by omega) (by have := HBE.out.size; simp; omega) ?_; intro v' w2 hown' hgrow _; refine Still.go ?_)
        unfold Still
        have HOWN2 := hide' (own_snoc hown')
        have HB2 := hide' (below_app HBE.out HOWN.out (Nat.le_refl _) HBE.out.size hgrow)
        clear hown' hgrow
        go_wp2
        go_roundw
        case rel => exact ⟨k + 1, _, by go_num, by omega, by simp; omega, HN2, HOWN2, HB2⟩
        case measure => simp [intOf]; omega
      · have HN2 := hide' (HRN.out 0 (by omega) (by omega))
        go_wp2_with (at_builtin; refine wpList_append_own _ rfl _ _ 24 rfl w.heap.size 3 i0 (.int .i64 0) 1 8 Try.underlying24 hi0 hzz0 hzz1 hzz2 rfl (by decide) _ _ _ rfl (HOWN.out.alloc _) ⟨wr.heap.size, 0, none⟩ 1 1 [.int .i64 0] rfl rfl (cell_one_new _ _ _) (one_cell rfl) (by unfold maxLen; omega) (by omega) (by have := HBE.out.size; simp; omega) ?_; intro v' w2 hown' hgrow _; refine Still.go ?_)
        unfold Still
        have HOWN2 := hide' (own_snoc hown')
        have HB2 := hide' (below_app HBE.out HOWN.out (Nat.le_refl _) HBE.out.size hgrow)
        clear hown' hgrow
        go_wp2
        go_roundw
        case rel => exact ⟨k + 1, _, by go_num, by omega, by simp; omega, HN2, HOWN2, HB2⟩
        case measure => simp [intOf]; omega
    · have hle : l.length = n := by omega
      have HE : Hid (RowAt wr u7 n 1 (ints l)) := by have := rowAt_of_own HOWN.out; rw [hle] at this; exact this
      have HLE := hide' hle
      clear hle
      go_wp2
      go_ret
      exact ⟨l, _, rfl, HLE.out, HR.out, HE.out, HBE.out⟩
def UBox (W : World) (P : Nat) (a0 a1 a2 a3 a4 a5 a6 : Value) : Prop := W.cell? ⟨P, 0, none⟩ = some a0 ∧ W.cell? ⟨P, 1, none⟩ = some a1 ∧ W.cell? ⟨P, 2, none⟩ = some a2 ∧ W.cell? ⟨P, 3, none⟩ = some a3 ∧ W.cell? ⟨P, 4, none⟩ = some a4 ∧ W.cell? ⟨P, 5, none⟩ = some a5 ∧ W.cell? ⟨P, 6, none⟩ = some a6
theorem UBox.of {W : World} {P e : Nat} {a0 a1 a2 a3 a4 a5 a6 : Value} (h : W.heap[P]? = some (.cells #[a0, a1, a2, a3, a4, a5, a6] e (0, 0))) : UBox W P a0 a1 a2 a3 a4 a5 a6 := by
  refine ⟨?_, ?_, ?_, ?_, ?_, ?_, ?_⟩ <;> simp [World.cell?, h]
theorem ubox_set {W : World} {P : Nat} {a0 a1 a2 a3 a4 a5 a6 : Value} (h : W.heap[P]? = some (.cells #[a0, a1, a2, a3, a4, a5, a6] 47 (0, 0))) (v0 v1 v2 v3 v4 v5 v6 : Value) (W' : World)
    (hW : W' = (((((((W.setCell ⟨P, 0, none⟩ v0).setCell ⟨P, 1, none⟩ v1).setCell ⟨P, 2, none⟩ v2).setCell ⟨P, 3, none⟩ v3).setCell ⟨P, 4, none⟩ v4).setCell ⟨P, 5, none⟩ v5).setCell ⟨P, 6, none⟩ v6)) : W'.heap[P]? = some (.cells #[v0, v1, v2, v3, v4, v5, v6] 47 (0, 0)) ∧ ∀ X, X ≤ P → Below X W W' := by
  have g0 := set_any h 0 v0
  have g1 := set_any g0 1 v1
  have g2 := set_any g1 2 v2
  have g3 := set_any g2 3 v3
  have g4 := set_any g3 4 v4
  have g5 := set_any g4 5 v5
  have g6 := set_any g5 6 v6
  refine ⟨by rw [hW, g6]; rfl, fun X hX => ?_⟩
  rw [hW]
  exact ((Only.set P _ _ W).below hX).trans (((Only.set P _ _ _).below hX).trans (((Only.set P _ _ _).below hX).trans (((Only.set P _ _ _).below hX).trans (((Only.set P _ _ _).below hX).trans (((Only.set P _ _ _).below hX).trans ((Only.set P _ _ _).below hX))))))
theorem mayUs_snoc {us : List UnitM} {u : UnitM} (h : MayUs us) (hu : MayU u) : MayUs (us ++ [u]) := fun i x hx => by
  by_cases hi : i < us.length
  · rw [List.getElem?_append_left hi] at hx
    exact h i x hx
  · by_cases hie : i = us.length
    · subst hie
      rw [List.getElem?_append_right (Nat.le_refl _), Nat.sub_self] at hx
      cases hx
      exact hu
    · rw [List.getElem?_eq_none (by simp; omega)] at hx
      cases hx
theorem mayU_made {p0 p1 p2 p3 p4 p5 p6 : Nat} {s : Int} (h0 : p0 < 50) (h1 : p1 < 100) (h2 : p2 < 20) (h3 : p3 < 1000) (h4 : p4 < 3) (h5 : p5 < 3) (h6 : p6 < 4) (hs : s = 1 + (p6 : Int) ∨ s = -(1 + (p6 : Int))) : MayU ⟨(p0 : Int), (p0 : Int) + (p1 : Int), (p2 : Int), (p3 : Int), 1 + (p4 : Int), 1 + (p5 : Int), s⟩ := by
  refine ⟨?_, ?_, ?_, ?_, ?_, ?_, ?_, ?_, ?_⟩ <;> simp only <;> omega
def I7 (u : UnitM) : Prop := I6 u.least ∧ I6 u.most ∧ I6 u.cost ∧ I6 u.start ∧ I6 u.up ∧ I6 u.down ∧ I6 u.was
set_option maxRecDepth 100000 in
set_option maxHeartbeats 4000000 in
theorem unitsFrom_any (raw : List UnitM) (v : Value) (w : World) (hx : UnitsAt w v raw) (hI : ∀ u ∈ raw, I7 u) (_hl : raw.length ≤ 2000000) :
    Calls Try.prog 20 #[v] w fun e w' => ∃ (us : List UnitM) (v' : Value), e = .returned v' ∧ UnitsAt w' v' us ∧ MayUs us ∧ us.length ≤ 4 ∧ Below w.heap.size w w' := by
  obtain ⟨i7, hi7, hzz0, hzz1, hzz2⟩ := info_parts Try.info47
  have HX := hide' hx
  have HI := hide' hI
  obtain ⟨ag, cg, rfl⟩ := rowAt_slice hx
  clear hx hI
  go_enter Try.func20, Try.ntmps20
  go_wp2_with fail
  go_loopw [3, 4] (fun lv iv W => ∃ (i : Nat) (us : List UnitM), iv = .int .i64 i ∧ Hid (i ≤ 4) ∧ Hid (i ≤ raw.length) ∧ Hid (us.length = i) ∧ Hid (MayUs us) ∧ Hid (W.ownsRow w.heap.size 47 7 lv i (us.flatMap UnitM.cells)) ∧ Hid (Below w.heap.size w W)) (fun _ iv _ => 4 - (intOf iv).toNat)
  case atStart =>
    have h0 : MayUs [] := fun i u h => by cases h
    exact ⟨0, [], rfl, Nat.zero_le _, Nat.zero_le _, rfl, h0, World.ownsRow_nil _ _ _ _, Below.refl _ w⟩
  case round =>
    obtain ⟨i, us, rfl, HI4, HIR, HUL, HMU, HOWN, HBE⟩ := hrel
    have hi4 := HI4.out
    have hir := HIR.out
    clear HI4 HIR
    by_cases hlt : i < raw.length
    · by_cases hl4 : i < 4
      · obtain ⟨bt, ot, ct', ex, hbt, hct⟩ := row_elem (f := UnitM.cells) (fun _ => rfl) HX.out i hlt (by decide)
        cases ex
        obtain ⟨u, hu⟩ : ∃ u, u = raw[i] := ⟨_, rfl⟩
        rw [← hu] at hct
        have hiu : I7 u := by rw [hu]; exact HI.out _ (List.getElem_mem hlt)
        obtain ⟨hu0, hu1, hu2, hu3, hu4, hu5, hu6⟩ := hiu
        have up : ∀ (c j : Nat) (u : Value), w.cell? ⟨c, j, none⟩ = some u → wr.cell? ⟨c, j, none⟩ = some u := fun c j u h => (HBE.out.cell (World.block_lt_of_cell? w _ h)).trans h
        have d0 := up _ _ _ (hct 0 _ rfl)
        have d1 := up _ _ _ (hct 1 _ rfl)
        have d2 := up _ _ _ (hct 2 _ rfl)
        have d3 := up _ _ _ (hct 3 _ rfl)
        have d4 := up _ _ _ (hct 4 _ rfl)
        have d5 := up _ _ _ (hct 5 _ rfl)
        have d6 := up _ _ _ (hct 6 _ rfl)
        rw [Nat.add_zero] at d0
        obtain ⟨x0, x1, x2, x3, x4, x5, x6⟩ := u
        simp only at d0 d1 d2 d3 d4 d5 d6 hu0 hu1 hu2 hu3 hu4 hu5 hu6
        obtain ⟨p0, hp0, HP0⟩ := picked_is x0 50 hu0 (by decide) (by decide)
        obtain ⟨p1, hp1, HP1⟩ := picked_is x1 100 hu1 (by decide) (by decide)
        obtain ⟨p2, hp2, HP2⟩ := picked_is x2 20 hu2 (by decide) (by decide)
        obtain ⟨p3, hp3, HP3⟩ := picked_is x3 1000 hu3 (by decide) (by decide)
        obtain ⟨p4, hp4, HP4⟩ := picked_is x4 3 hu4 (by decide) (by decide)
        obtain ⟨p5, hp5, HP5⟩ := picked_is x5 3 hu5 (by decide) (by decide)
        obtain ⟨p6, hp6, HP6⟩ := picked_is x6 4 hu6 (by decide) (by decide)
        replace HP0 := hide' HP0
        replace HP1 := hide' HP1
        replace HP2 := hide' HP2
        replace HP3 := hide' HP3
        replace HP4 := hide' HP4
        replace HP5 := hide' HP5
        replace HP6 := hide' HP6
        have hw4 : IntKind.i64.wrap (1 + (p4 : Int)) = 1 + (p4 : Int) := Go.IntWalk.i64_in _ (by omega)
        have hw5 : IntKind.i64.wrap (1 + (p5 : Int)) = 1 + (p5 : Int) := Go.IntWalk.i64_in _ (by omega)
        have hw6 : IntKind.i64.wrap (1 + (p6 : Int)) = 1 + (p6 : Int) := Go.IntWalk.i64_in _ (by omega)
        have hw1 : IntKind.i64.wrap ((p0 : Int) + (p1 : Int)) = (p0 : Int) + (p1 : Int) := Go.IntWalk.i64_in _ (by omega)
        obtain ⟨Q, hQ⟩ : ∃ x, x = wr.heap.size := ⟨_, rfl⟩
        obtain ⟨X1, hX1⟩ : ∃ x, x = wr.alloc (.cells #[.int .i64 x0, .int .i64 x1, .int .i64 x2, .int .i64 x3, .int .i64 x4, .int .i64 x5, .int .i64 x6] 82) := ⟨_, rfl⟩
        have hXQ : X1.heap[Q]? = some (.cells #[.int .i64 x0, .int .i64 x1, .int .i64 x2, .int .i64 x3, .int .i64 x4, .int .i64 x5, .int .i64 x6] 82 (0, 0)) := by rw [hX1, hQ]; exact heap_alloc_new _ _
        have HXQ := hide' hXQ
        have HB1 : Hid (Below wr.heap.size wr X1) := by rw [hX1]; exact (Below.refl _ wr).alloc (Nat.le_refl _) _
        have HX1 := hide' hX1
        have HQ := hide' hQ
        clear hct hu up hbt hu0 hu1 hu2 hu3 hu4 hu5 hu6 hX1 hQ hXQ
        go_upto_region 6 with fail
        rw [← HX1.out, ← HQ.out]
        clear d0 d1 d2 d3 d4 d5 d6
        go_cut [6] from 7 to 60 (fun q6 wc => ∃ (P : Nat), q6 = .pointer (some ⟨P, 0, none⟩) ∧ Hid (wr.heap.size ≤ P) ∧ Hid (Q < P) ∧ Hid (wc.heap[P]? = some (.cells #[.int .i64 (p0 : Int), .int .i64 0, .int .i64 (p2 : Int), .int .i64 (p3 : Int), .int .i64 (1 + (p4 : Int)), .int .i64 (1 + (p5 : Int)), .int .i64 (1 + (p6 : Int))] 47 (0, 0))) ∧ Hid (wc.cell? ⟨Q, 1, none⟩ = some (.int .i64 x1)) ∧ Hid (wc.cell? ⟨Q, 6, none⟩ = some (.int .i64 x6)) ∧ Hid (Below wr.heap.size wr wc))
        case first =>
          go_wp2_with fail
          refine wp_region_tail (fun W => W.cell? ⟨Q, 0, none⟩ = some (.int .i64 x0) ∧ W.cell? ⟨Q, 2, none⟩ = some (.int .i64 x2) ∧ W.cell? ⟨Q, 3, none⟩ = some (.int .i64 x3) ∧ W.cell? ⟨Q, 4, none⟩ = some (.int .i64 x4) ∧ W.cell? ⟨Q, 5, none⟩ = some (.int .i64 x5) ∧ W.cell? ⟨Q, 6, none⟩ = some (.int .i64 x6)) 23 (by kernel_rfl) ?_
          obtain ⟨X0, hX0⟩ : ∃ x, x = X1.drew := ⟨_, rfl⟩
          rw [← hX0]
          have HB0 : Hid (Below wr.heap.size wr X0) := by rw [hX0]; exact HB1.out.drew
          obtain ⟨k0, m1, k2, k3, k4, k5, k6⟩ := UBox.of (W := X0) (by rw [hX0]; exact HXQ.out)
          clear hX0
          refine wpAnyD_takeAt 0 (some 21) (v := ?_) rfl (by kernel_rfl) (by kernel_rfl) (by kernel_rfl) (by kernel_rfl) (by kernel_rfl) (fun _ _ _ h => h) (by exact ⟨k0, k2, k3, k4, k5, k6⟩) (fun o hop => ?_) ?_
          rotate_left
          · injection hop with hop
            subst hop
            refine ⟨rfl, fun W hW => ?_⟩
            obtain ⟨s0, s1, s2, s3, s4, s5⟩ := hW
            go_simp
            first
            | rfl
            | rw [if_neg (by omega)]
          try simp only [Act.put, List.setIfInBounds_toArray, List.set_cons_zero, List.set_cons_succ]
          refine wpAnyD_takeAt 1 (some 22) (v := ?_) rfl (by kernel_rfl) (by kernel_rfl) (by kernel_rfl) (by kernel_rfl) (by kernel_rfl) (fun _ _ _ h => h) (by exact ⟨k0, k2, k3, k4, k5, k6⟩) (fun o hop => ?_) ?_
          rotate_left
          · injection hop with hop
            subst hop
            refine ⟨rfl, fun W hW => ?_⟩
            obtain ⟨s0, s1, s2, s3, s4, s5⟩ := hW
            go_simp
            first
            | rfl
            | rw [if_neg (by omega)]
          try simp only [Act.put, List.setIfInBounds_toArray, List.set_cons_zero, List.set_cons_succ]
          refine wpAnyD_takeAt 3 (some 24) (v := ?_) rfl (by kernel_rfl) (by kernel_rfl) (by kernel_rfl) (by kernel_rfl) (by kernel_rfl) (fun _ _ _ h => h) (by exact ⟨k0, k2, k3, k4, k5, k6⟩) (fun o hop => ?_) ?_
          rotate_left
          · injection hop with hop
            subst hop
            refine ⟨rfl, fun W hW => ?_⟩
            obtain ⟨s0, s1, s2, s3, s4, s5⟩ := hW
            go_simp
            first
            | rfl
            | rw [if_neg (by omega)]
          try simp only [Act.put, List.setIfInBounds_toArray, List.set_cons_zero, List.set_cons_succ]
          refine wpAnyD_takeAt 4 (some 25) (v := ?_) rfl (by kernel_rfl) (by kernel_rfl) (by kernel_rfl) (by kernel_rfl) (by kernel_rfl) (fun _ _ _ h => h) (by exact ⟨k0, k2, k3, k4, k5, k6⟩) (fun o hop => ?_) ?_
          rotate_left
          · injection hop with hop
            subst hop
            refine ⟨rfl, fun W hW => ?_⟩
            obtain ⟨s0, s1, s2, s3, s4, s5⟩ := hW
            go_simp
            first
            | rfl
            | rw [if_neg (by omega)]
          try simp only [Act.put, List.setIfInBounds_toArray, List.set_cons_zero, List.set_cons_succ]
          refine wpAnyD_takeAt 6 (some 27) (v := ?_) rfl (by kernel_rfl) (by kernel_rfl) (by kernel_rfl) (by kernel_rfl) (by kernel_rfl) (fun _ _ _ h => h) (by exact ⟨k0, k2, k3, k4, k5, k6⟩) (fun o hop => ?_) ?_
          rotate_left
          · injection hop with hop
            subst hop
            refine ⟨rfl, fun W hW => ?_⟩
            obtain ⟨s0, s1, s2, s3, s4, s5⟩ := hW
            go_simp
            first
            | rfl
            | rw [if_neg (by omega)]
          try simp only [Act.put, List.setIfInBounds_toArray, List.set_cons_zero, List.set_cons_succ]
          refine wpAnyD_takeAt 7 (some 28) (v := ?_) rfl (by kernel_rfl) (by kernel_rfl) (by kernel_rfl) (by kernel_rfl) (by kernel_rfl) (fun _ _ _ h => h) (by exact ⟨k0, k2, k3, k4, k5, k6⟩) (fun o hop => ?_) ?_
          rotate_left
          · injection hop with hop
            subst hop
            refine ⟨rfl, fun W hW => ?_⟩
            obtain ⟨s0, s1, s2, s3, s4, s5⟩ := hW
            go_simp
            first
            | rfl
            | rw [if_neg (by omega)]
          try simp only [Act.put, List.setIfInBounds_toArray, List.set_cons_zero, List.set_cons_succ]
          refine wpAnyD_takeAt 9 (some 30) (v := ?_) rfl (by kernel_rfl) (by kernel_rfl) (by kernel_rfl) (by kernel_rfl) (by kernel_rfl) (fun _ _ _ h => h) (by exact ⟨k0, k2, k3, k4, k5, k6⟩) (fun o hop => ?_) ?_
          rotate_left
          · injection hop with hop
            subst hop
            refine ⟨rfl, fun W hW => ?_⟩
            obtain ⟨s0, s1, s2, s3, s4, s5⟩ := hW
            go_simp
            first
            | rfl
            | rw [if_neg (by omega)]
          try simp only [Act.put, List.setIfInBounds_toArray, List.set_cons_zero, List.set_cons_succ]
          refine wpAnyD_takeAt 10 (some 31) (v := ?_) rfl (by kernel_rfl) (by kernel_rfl) (by kernel_rfl) (by kernel_rfl) (by kernel_rfl) (fun _ _ _ h => h) (by exact ⟨k0, k2, k3, k4, k5, k6⟩) (fun o hop => ?_) ?_
          rotate_left
          · injection hop with hop
            subst hop
            refine ⟨rfl, fun W hW => ?_⟩
            obtain ⟨s0, s1, s2, s3, s4, s5⟩ := hW
            go_simp
            first
            | rfl
            | rw [if_neg (by omega)]
          try simp only [Act.put, List.setIfInBounds_toArray, List.set_cons_zero, List.set_cons_succ]
          refine wpAnyD_takeAt 13 (some 34) (v := ?_) rfl (by kernel_rfl) (by kernel_rfl) (by kernel_rfl) (by kernel_rfl) (by kernel_rfl) (fun _ _ _ h => h) (by exact ⟨k0, k2, k3, k4, k5, k6⟩) (fun o hop => ?_) ?_
          rotate_left
          · injection hop with hop
            subst hop
            refine ⟨rfl, fun W hW => ?_⟩
            obtain ⟨s0, s1, s2, s3, s4, s5⟩ := hW
            go_simp
            first
            | rfl
            | rw [if_neg (by omega)]
          try simp only [Act.put, List.setIfInBounds_toArray, List.set_cons_zero, List.set_cons_succ]
          refine wpAnyD_takeAt 14 (some 35) (v := ?_) rfl (by kernel_rfl) (by kernel_rfl) (by kernel_rfl) (by kernel_rfl) (by kernel_rfl) (fun _ _ _ h => h) (by exact ⟨k0, k2, k3, k4, k5, k6⟩) (fun o hop => ?_) ?_
          rotate_left
          · injection hop with hop
            subst hop
            refine ⟨rfl, fun W hW => ?_⟩
            obtain ⟨s0, s1, s2, s3, s4, s5⟩ := hW
            go_simp
            first
            | rfl
            | rw [if_neg (by omega)]
          try simp only [Act.put, List.setIfInBounds_toArray, List.set_cons_zero, List.set_cons_succ]
          refine wpAnyD_takeAt 17 (some 38) (v := ?_) rfl (by kernel_rfl) (by kernel_rfl) (by kernel_rfl) (by kernel_rfl) (by kernel_rfl) (fun _ _ _ h => h) (by exact ⟨k0, k2, k3, k4, k5, k6⟩) (fun o hop => ?_) ?_
          rotate_left
          · injection hop with hop
            subst hop
            refine ⟨rfl, fun W hW => ?_⟩
            obtain ⟨s0, s1, s2, s3, s4, s5⟩ := hW
            go_simp
            first
            | rfl
            | rw [if_neg (by omega)]
          try simp only [Act.put, List.setIfInBounds_toArray, List.set_cons_zero, List.set_cons_succ]
          refine wpAnyD_takeAt 18 (some 39) (v := ?_) rfl (by kernel_rfl) (by kernel_rfl) (by kernel_rfl) (by kernel_rfl) (by kernel_rfl) (fun _ _ _ h => h) (by exact ⟨k0, k2, k3, k4, k5, k6⟩) (fun o hop => ?_) ?_
          rotate_left
          · injection hop with hop
            subst hop
            refine ⟨rfl, fun W hW => ?_⟩
            obtain ⟨s0, s1, s2, s3, s4, s5⟩ := hW
            go_simp
            first
            | rfl
            | rw [if_neg (by omega)]
          try simp only [Act.put, List.setIfInBounds_toArray, List.set_cons_zero, List.set_cons_succ]
          refine wpAnyT_two (i := 2) (j := 22) (by kernel_rfl) rfl rfl rfl rfl (fun K' hK => ?_) (fun K' hK => ?_)
          · go_simp
            go_at_call 21
            refine (HP0.out _).mono ?_
            rintro e w' ⟨rfl, hw'⟩
            rw [hw']
            clear hw'
            refine hK.out _ _ (fun _ => by exact ⟨k0, k2, k3, k4, k5, k6⟩) ?_
            clear hK K'
            refine wpAnyT_two (i := 5) (j := 22) (by kernel_rfl) rfl rfl rfl rfl (fun K' hK => ?_) (fun K' hK => ?_)
            · go_simp
              go_at_call 21
              refine (HP2.out _).mono ?_
              rintro e w' ⟨rfl, hw'⟩
              rw [hw']
              clear hw'
              refine hK.out _ _ (fun _ => by exact ⟨k0, k2, k3, k4, k5, k6⟩) ?_
              clear hK K'
              refine wpAnyT_two (i := 8) (j := 22) (by kernel_rfl) rfl rfl rfl rfl (fun K' hK => ?_) (fun K' hK => ?_)
              · go_simp
                go_at_call 21
                refine (HP3.out _).mono ?_
                rintro e w' ⟨rfl, hw'⟩
                rw [hw']
                clear hw'
                refine hK.out _ _ (fun _ => by exact ⟨k0, k2, k3, k4, k5, k6⟩) ?_
                clear hK K'
                refine wpAnyT_two (i := 11) (j := 22) (by kernel_rfl) rfl rfl rfl rfl (fun K' hK => ?_) (fun K' hK => ?_)
                · go_simp
                  go_at_call 21
                  refine (HP4.out _).mono ?_
                  rintro e w' ⟨rfl, hw'⟩
                  rw [hw']
                  clear hw'
                  refine hK.out _ _ (fun _ => by exact ⟨k0, k2, k3, k4, k5, k6⟩) ?_
                  clear hK K'
                  refine wpAnyD_takeAt 12 (some 33) (v := ?_) rfl (by kernel_rfl) (by kernel_rfl) (by kernel_rfl) (by kernel_rfl) (by kernel_rfl) (fun _ _ _ h => h) (by exact ⟨k0, k2, k3, k4, k5, k6⟩) (fun o hop => ?_) ?_
                  rotate_left
                  · injection hop with hop
                    subst hop
                    refine ⟨rfl, fun W hW => ?_⟩
                    obtain ⟨s0, s1, s2, s3, s4, s5⟩ := hW
                    go_simp
                    first
                    | rfl
                    | rw [if_neg (by omega)]
                  try simp only [Act.put, List.setIfInBounds_toArray, List.set_cons_zero, List.set_cons_succ]
                  refine wpAnyT_two (i := 15) (j := 22) (by kernel_rfl) rfl rfl rfl rfl (fun K' hK => ?_) (fun K' hK => ?_)
                  · go_simp
                    go_at_call 21
                    refine (HP5.out _).mono ?_
                    rintro e w' ⟨rfl, hw'⟩
                    rw [hw']
                    clear hw'
                    refine hK.out _ _ (fun _ => by exact ⟨k0, k2, k3, k4, k5, k6⟩) ?_
                    clear hK K'
                    refine wpAnyD_takeAt 16 (some 37) (v := ?_) rfl (by kernel_rfl) (by kernel_rfl) (by kernel_rfl) (by kernel_rfl) (by kernel_rfl) (fun _ _ _ h => h) (by exact ⟨k0, k2, k3, k4, k5, k6⟩) (fun o hop => ?_) ?_
                    rotate_left
                    · injection hop with hop
                      subst hop
                      refine ⟨rfl, fun W hW => ?_⟩
                      obtain ⟨s0, s1, s2, s3, s4, s5⟩ := hW
                      go_simp
                      first
                      | rfl
                      | rw [if_neg (by omega)]
                    try simp only [Act.put, List.setIfInBounds_toArray, List.set_cons_zero, List.set_cons_succ]
                    refine wpAnyT_two (i := 19) (j := 22) (by kernel_rfl) rfl rfl rfl rfl (fun K' hK => ?_) (fun K' hK => ?_)
                    · go_simp
                      go_at_call 21
                      refine (HP6.out _).mono ?_
                      rintro e w' ⟨rfl, hw'⟩
                      rw [hw']
                      clear hw'
                      refine hK.out _ _ (fun _ => by exact ⟨k0, k2, k3, k4, k5, k6⟩) ?_
                      clear hK K'
                      refine wpAnyD_takeAt 20 (some 41) (v := ?_) rfl (by kernel_rfl) (by kernel_rfl) (by kernel_rfl) (by kernel_rfl) (by kernel_rfl) (fun _ _ _ h => h) (by exact ⟨k0, k2, k3, k4, k5, k6⟩) (fun o hop => ?_) ?_
                      rotate_left
                      · injection hop with hop
                        subst hop
                        refine ⟨rfl, fun W hW => ?_⟩
                        obtain ⟨s0, s1, s2, s3, s4, s5⟩ := hW
                        go_simp
                        first
                        | rfl
                        | rw [if_neg (by omega)]
                      try simp only [Act.put, List.setIfInBounds_toArray, List.set_cons_zero, List.set_cons_succ]
                      refine wpAnyT_two (i := 21) (j := 22) (by kernel_rfl) rfl rfl rfl rfl (fun K' hK => ?_) (fun K' hK => ?_)
                      · go_simp
                        refine hK.out _ _ (fun _ => by exact ⟨k0, k2, k3, k4, k5, k6⟩) ?_
                        clear hK K'
                        refine wpAnyT_one (i := 22) (by kernel_rfl) rfl rfl (fun K' hK => ?_)
                        go_simp
                        obtain ⟨W1, hW1⟩ : ∃ Y, Y = World.alloc X0 (.cells #[.int .i64 0, .int .i64 0, .int .i64 0, .int .i64 0, .int .i64 0, .int .i64 0, .int .i64 0] 47) := ⟨_, rfl⟩
                        obtain ⟨P1, hP1⟩ : ∃ P, P = X0.heap.size := ⟨_, rfl⟩
                        rw [← hW1, ← hP1]
                        have HS1 : Hid (Below X0.heap.size X0 W1) := by rw [hW1]; exact (Below.refl _ _).alloc (Nat.le_refl _) _
                        have HD1 : Hid (W1.heap[P1]? = some (.cells #[.int .i64 0, .int .i64 0, .int .i64 0, .int .i64 0, .int .i64 0, .int .i64 0, .int .i64 0] 47 (0, 0))) := by rw [hW1, hP1]; exact heap_alloc_new _ _
                        have HQ1 : Hid (Q < P1) := by rw [hP1]; exact World.block_lt_of_cell? _ _ k0
                        have HR1 : Hid (wr.heap.size ≤ P1) := by rw [hP1]; exact HB0.out.size
                        have HB1 := hide' (HB0.out.trans (HS1.out.mono HB0.out.size))
                        have HC1 : Hid (∀ j u, X0.cell? ⟨Q, j, none⟩ = some u → W1.cell? ⟨Q, j, none⟩ = some u) := fun j u h => (HS1.out.cell (World.block_lt_of_cell? _ _ h)).trans h
                        clear hW1 hP1
                        have k0_1 := HC1.out _ _ k0
                        have k2_1 := HC1.out _ _ k2
                        have k3_1 := HC1.out _ _ k3
                        have k4_1 := HC1.out _ _ k4
                        have k5_1 := HC1.out _ _ k5
                        have k6_1 := HC1.out _ _ k6
                        have m1_1 := HC1.out _ _ m1
                        clear k0 k2 k3 k4 k5 k6 m1
                        refine hK.out _ _ (fun _ => by exact ⟨k0_1, k2_1, k3_1, k4_1, k5_1, k6_1⟩) ?_
                        clear hK K'
                        refine wpAnyT_one (i := 23) (by kernel_rfl) rfl rfl (fun K' hK => ?_)
                        obtain ⟨r0, r1, r2, r3, r4, r5, r6⟩ := UBox.of HD1.out
                        have q := frozen_no HD1.out
                        have q0 := q 0
                        have q1 := q 1
                        have q2 := q 2
                        have q3 := q 3
                        have q4 := q 4
                        have q5 := q 5
                        have q6 := q 6
                        have HBO := hide' (ubox_set HD1.out (.int .i64 (p0 : Int)) (.int .i64 0) (.int .i64 (p2 : Int)) (.int .i64 (p3 : Int)) (.int .i64 (1 + (p4 : Int))) (.int .i64 (1 + (p5 : Int))) (.int .i64 (1 + (p6 : Int))) _ rfl)
                        go_simp
                        refine hK.out _ _ (fun h => absurd rfl h) ?_
                        clear hK K' r0 r1 r2 r3 r4 r5 r6 q q0 q1 q2 q3 q4 q5 q6
                        refine wpAnyT_done (by kernel_rfl) ?_ _
                        have HBL := hide' (HB1.out.trans (HBO.out.2 _ HR1.out))
                        have HBA := hide' HBO.out.1
                        have HX1 : Hid (_ = some (Value.int .i64 x1)) := ((HBO.out.2 _ (Nat.le_refl _)).cell (p := ⟨Q, 1, none⟩) HQ1.out).trans m1_1
                        have HX6 : Hid (_ = some (Value.int .i64 x6)) := ((HBO.out.2 _ (Nat.le_refl _)).cell (p := ⟨Q, 6, none⟩) HQ1.out).trans k6_1
                        clear HBO k0_1 k2_1 k3_1 k4_1 k5_1 k6_1 m1_1
                        go_wp2_with fail
                        go_meet
                        case rel => exact ⟨P1, rfl, HR1, HQ1, HBA, HX1, HX6, HBL⟩
                      · go_simp
                        obtain ⟨W2, hW2⟩ : ∃ Y, Y = World.alloc X0 (.cells #[.int .i64 0, .int .i64 0, .int .i64 0, .int .i64 0, .int .i64 0, .int .i64 0, .int .i64 0] 47) := ⟨_, rfl⟩
                        obtain ⟨P2, hP2⟩ : ∃ P, P = X0.heap.size := ⟨_, rfl⟩
                        rw [← hW2, ← hP2]
                        have HS2 : Hid (Below X0.heap.size X0 W2) := by rw [hW2]; exact (Below.refl _ _).alloc (Nat.le_refl _) _
                        have HD2 : Hid (W2.heap[P2]? = some (.cells #[.int .i64 0, .int .i64 0, .int .i64 0, .int .i64 0, .int .i64 0, .int .i64 0, .int .i64 0] 47 (0, 0))) := by rw [hW2, hP2]; exact heap_alloc_new _ _
                        have HQ2 : Hid (Q < P2) := by rw [hP2]; exact World.block_lt_of_cell? _ _ k0
                        have HR2 : Hid (wr.heap.size ≤ P2) := by rw [hP2]; exact HB0.out.size
                        have HB2 := hide' (HB0.out.trans (HS2.out.mono HB0.out.size))
                        have HC2 : Hid (∀ j u, X0.cell? ⟨Q, j, none⟩ = some u → W2.cell? ⟨Q, j, none⟩ = some u) := fun j u h => (HS2.out.cell (World.block_lt_of_cell? _ _ h)).trans h
                        clear hW2 hP2
                        have k0_2 := HC2.out _ _ k0
                        have k2_2 := HC2.out _ _ k2
                        have k3_2 := HC2.out _ _ k3
                        have k4_2 := HC2.out _ _ k4
                        have k5_2 := HC2.out _ _ k5
                        have k6_2 := HC2.out _ _ k6
                        have m1_2 := HC2.out _ _ m1
                        clear k0 k2 k3 k4 k5 k6 m1
                        refine hK.out _ _ (fun _ => by exact ⟨k0_2, k2_2, k3_2, k4_2, k5_2, k6_2⟩) ?_
                        clear hK K'
                        refine wpAnyT_one (i := 21) (by kernel_rfl) rfl rfl (fun K' hK => ?_)
                        go_simp
                        refine hK.out _ _ (fun _ => by exact ⟨k0_2, k2_2, k3_2, k4_2, k5_2, k6_2⟩) ?_
                        clear hK K'
                        refine wpAnyT_one (i := 23) (by kernel_rfl) rfl rfl (fun K' hK => ?_)
                        obtain ⟨r0, r1, r2, r3, r4, r5, r6⟩ := UBox.of HD2.out
                        have q := frozen_no HD2.out
                        have q0 := q 0
                        have q1 := q 1
                        have q2 := q 2
                        have q3 := q 3
                        have q4 := q 4
                        have q5 := q 5
                        have q6 := q 6
                        have HBO := hide' (ubox_set HD2.out (.int .i64 (p0 : Int)) (.int .i64 0) (.int .i64 (p2 : Int)) (.int .i64 (p3 : Int)) (.int .i64 (1 + (p4 : Int))) (.int .i64 (1 + (p5 : Int))) (.int .i64 (1 + (p6 : Int))) _ rfl)
                        go_simp
                        refine hK.out _ _ (fun h => absurd rfl h) ?_
                        clear hK K' r0 r1 r2 r3 r4 r5 r6 q q0 q1 q2 q3 q4 q5 q6
                        refine wpAnyT_done (by kernel_rfl) ?_ _
                        have HBL := hide' (HB2.out.trans (HBO.out.2 _ HR2.out))
                        have HBA := hide' HBO.out.1
                        have HX1 : Hid (_ = some (Value.int .i64 x1)) := ((HBO.out.2 _ (Nat.le_refl _)).cell (p := ⟨Q, 1, none⟩) HQ2.out).trans m1_2
                        have HX6 : Hid (_ = some (Value.int .i64 x6)) := ((HBO.out.2 _ (Nat.le_refl _)).cell (p := ⟨Q, 6, none⟩) HQ2.out).trans k6_2
                        clear HBO k0_2 k2_2 k3_2 k4_2 k5_2 k6_2 m1_2
                        go_wp2_with fail
                        go_meet
                        case rel => exact ⟨P2, rfl, HR2, HQ2, HBA, HX1, HX6, HBL⟩
                    · go_simp
                      obtain ⟨W3, hW3⟩ : ∃ Y, Y = World.alloc X0 (.cells #[.int .i64 0, .int .i64 0, .int .i64 0, .int .i64 0, .int .i64 0, .int .i64 0, .int .i64 0] 47) := ⟨_, rfl⟩
                      obtain ⟨P3, hP3⟩ : ∃ P, P = X0.heap.size := ⟨_, rfl⟩
                      rw [← hW3, ← hP3]
                      have HS3 : Hid (Below X0.heap.size X0 W3) := by rw [hW3]; exact (Below.refl _ _).alloc (Nat.le_refl _) _
                      have HD3 : Hid (W3.heap[P3]? = some (.cells #[.int .i64 0, .int .i64 0, .int .i64 0, .int .i64 0, .int .i64 0, .int .i64 0, .int .i64 0] 47 (0, 0))) := by rw [hW3, hP3]; exact heap_alloc_new _ _
                      have HQ3 : Hid (Q < P3) := by rw [hP3]; exact World.block_lt_of_cell? _ _ k0
                      have HR3 : Hid (wr.heap.size ≤ P3) := by rw [hP3]; exact HB0.out.size
                      have HB3 := hide' (HB0.out.trans (HS3.out.mono HB0.out.size))
                      have HC3 : Hid (∀ j u, X0.cell? ⟨Q, j, none⟩ = some u → W3.cell? ⟨Q, j, none⟩ = some u) := fun j u h => (HS3.out.cell (World.block_lt_of_cell? _ _ h)).trans h
                      clear hW3 hP3
                      have k0_3 := HC3.out _ _ k0
                      have k2_3 := HC3.out _ _ k2
                      have k3_3 := HC3.out _ _ k3
                      have k4_3 := HC3.out _ _ k4
                      have k5_3 := HC3.out _ _ k5
                      have k6_3 := HC3.out _ _ k6
                      have m1_3 := HC3.out _ _ m1
                      clear k0 k2 k3 k4 k5 k6 m1
                      refine hK.out _ _ (fun _ => by exact ⟨k0_3, k2_3, k3_3, k4_3, k5_3, k6_3⟩) ?_
                      clear hK K'
                      refine wpAnyT_one (i := 19) (by kernel_rfl) rfl rfl (fun K' hK => ?_)
                      go_simp
                      go_at_call 21
                      refine (HP6.out _).mono ?_
                      rintro e w' ⟨rfl, hw'⟩
                      rw [hw']
                      clear hw'
                      refine hK.out _ _ (fun _ => by exact ⟨k0_3, k2_3, k3_3, k4_3, k5_3, k6_3⟩) ?_
                      clear hK K'
                      refine wpAnyD_takeAt 20 (some 41) (v := ?_) rfl (by kernel_rfl) (by kernel_rfl) (by kernel_rfl) (by kernel_rfl) (by kernel_rfl) (fun _ _ _ h => h) (by exact ⟨k0_3, k2_3, k3_3, k4_3, k5_3, k6_3⟩) (fun o hop => ?_) ?_
                      rotate_left
                      · injection hop with hop
                        subst hop
                        refine ⟨rfl, fun W hW => ?_⟩
                        obtain ⟨s0, s1, s2, s3, s4, s5⟩ := hW
                        go_simp
                        first
                        | rfl
                        | rw [if_neg (by omega)]
                      try simp only [Act.put, List.setIfInBounds_toArray, List.set_cons_zero, List.set_cons_succ]
                      refine wpAnyT_one (i := 21) (by kernel_rfl) rfl rfl (fun K' hK => ?_)
                      go_simp
                      refine hK.out _ _ (fun _ => by exact ⟨k0_3, k2_3, k3_3, k4_3, k5_3, k6_3⟩) ?_
                      clear hK K'
                      refine wpAnyT_one (i := 23) (by kernel_rfl) rfl rfl (fun K' hK => ?_)
                      obtain ⟨r0, r1, r2, r3, r4, r5, r6⟩ := UBox.of HD3.out
                      have q := frozen_no HD3.out
                      have q0 := q 0
                      have q1 := q 1
                      have q2 := q 2
                      have q3 := q 3
                      have q4 := q 4
                      have q5 := q 5
                      have q6 := q 6
                      have HBO := hide' (ubox_set HD3.out (.int .i64 (p0 : Int)) (.int .i64 0) (.int .i64 (p2 : Int)) (.int .i64 (p3 : Int)) (.int .i64 (1 + (p4 : Int))) (.int .i64 (1 + (p5 : Int))) (.int .i64 (1 + (p6 : Int))) _ rfl)
                      go_simp
                      refine hK.out _ _ (fun h => absurd rfl h) ?_
                      clear hK K' r0 r1 r2 r3 r4 r5 r6 q q0 q1 q2 q3 q4 q5 q6
                      refine wpAnyT_done (by kernel_rfl) ?_ _
                      have HBL := hide' (HB3.out.trans (HBO.out.2 _ HR3.out))
                      have HBA := hide' HBO.out.1
                      have HX1 : Hid (_ = some (Value.int .i64 x1)) := ((HBO.out.2 _ (Nat.le_refl _)).cell (p := ⟨Q, 1, none⟩) HQ3.out).trans m1_3
                      have HX6 : Hid (_ = some (Value.int .i64 x6)) := ((HBO.out.2 _ (Nat.le_refl _)).cell (p := ⟨Q, 6, none⟩) HQ3.out).trans k6_3
                      clear HBO k0_3 k2_3 k3_3 k4_3 k5_3 k6_3 m1_3
                      go_wp2_with fail
                      go_meet
                      case rel => exact ⟨P3, rfl, HR3, HQ3, HBA, HX1, HX6, HBL⟩
                  · go_simp
                    obtain ⟨W4, hW4⟩ : ∃ Y, Y = World.alloc X0 (.cells #[.int .i64 0, .int .i64 0, .int .i64 0, .int .i64 0, .int .i64 0, .int .i64 0, .int .i64 0] 47) := ⟨_, rfl⟩
                    obtain ⟨P4, hP4⟩ : ∃ P, P = X0.heap.size := ⟨_, rfl⟩
                    rw [← hW4, ← hP4]
                    have HS4 : Hid (Below X0.heap.size X0 W4) := by rw [hW4]; exact (Below.refl _ _).alloc (Nat.le_refl _) _
                    have HD4 : Hid (W4.heap[P4]? = some (.cells #[.int .i64 0, .int .i64 0, .int .i64 0, .int .i64 0, .int .i64 0, .int .i64 0, .int .i64 0] 47 (0, 0))) := by rw [hW4, hP4]; exact heap_alloc_new _ _
                    have HQ4 : Hid (Q < P4) := by rw [hP4]; exact World.block_lt_of_cell? _ _ k0
                    have HR4 : Hid (wr.heap.size ≤ P4) := by rw [hP4]; exact HB0.out.size
                    have HB4 := hide' (HB0.out.trans (HS4.out.mono HB0.out.size))
                    have HC4 : Hid (∀ j u, X0.cell? ⟨Q, j, none⟩ = some u → W4.cell? ⟨Q, j, none⟩ = some u) := fun j u h => (HS4.out.cell (World.block_lt_of_cell? _ _ h)).trans h
                    clear hW4 hP4
                    have k0_4 := HC4.out _ _ k0
                    have k2_4 := HC4.out _ _ k2
                    have k3_4 := HC4.out _ _ k3
                    have k4_4 := HC4.out _ _ k4
                    have k5_4 := HC4.out _ _ k5
                    have k6_4 := HC4.out _ _ k6
                    have m1_4 := HC4.out _ _ m1
                    clear k0 k2 k3 k4 k5 k6 m1
                    refine hK.out _ _ (fun _ => by exact ⟨k0_4, k2_4, k3_4, k4_4, k5_4, k6_4⟩) ?_
                    clear hK K'
                    refine wpAnyT_one (i := 15) (by kernel_rfl) rfl rfl (fun K' hK => ?_)
                    go_simp
                    go_at_call 21
                    refine (HP5.out _).mono ?_
                    rintro e w' ⟨rfl, hw'⟩
                    rw [hw']
                    clear hw'
                    refine hK.out _ _ (fun _ => by exact ⟨k0_4, k2_4, k3_4, k4_4, k5_4, k6_4⟩) ?_
                    clear hK K'
                    refine wpAnyD_takeAt 16 (some 37) (v := ?_) rfl (by kernel_rfl) (by kernel_rfl) (by kernel_rfl) (by kernel_rfl) (by kernel_rfl) (fun _ _ _ h => h) (by exact ⟨k0_4, k2_4, k3_4, k4_4, k5_4, k6_4⟩) (fun o hop => ?_) ?_
                    rotate_left
                    · injection hop with hop
                      subst hop
                      refine ⟨rfl, fun W hW => ?_⟩
                      obtain ⟨s0, s1, s2, s3, s4, s5⟩ := hW
                      go_simp
                      first
                      | rfl
                      | rw [if_neg (by omega)]
                    try simp only [Act.put, List.setIfInBounds_toArray, List.set_cons_zero, List.set_cons_succ]
                    refine wpAnyT_one (i := 19) (by kernel_rfl) rfl rfl (fun K' hK => ?_)
                    go_simp
                    go_at_call 21
                    refine (HP6.out _).mono ?_
                    rintro e w' ⟨rfl, hw'⟩
                    rw [hw']
                    clear hw'
                    refine hK.out _ _ (fun _ => by exact ⟨k0_4, k2_4, k3_4, k4_4, k5_4, k6_4⟩) ?_
                    clear hK K'
                    refine wpAnyD_takeAt 20 (some 41) (v := ?_) rfl (by kernel_rfl) (by kernel_rfl) (by kernel_rfl) (by kernel_rfl) (by kernel_rfl) (fun _ _ _ h => h) (by exact ⟨k0_4, k2_4, k3_4, k4_4, k5_4, k6_4⟩) (fun o hop => ?_) ?_
                    rotate_left
                    · injection hop with hop
                      subst hop
                      refine ⟨rfl, fun W hW => ?_⟩
                      obtain ⟨s0, s1, s2, s3, s4, s5⟩ := hW
                      go_simp
                      first
                      | rfl
                      | rw [if_neg (by omega)]
                    try simp only [Act.put, List.setIfInBounds_toArray, List.set_cons_zero, List.set_cons_succ]
                    refine wpAnyT_one (i := 21) (by kernel_rfl) rfl rfl (fun K' hK => ?_)
                    go_simp
                    refine hK.out _ _ (fun _ => by exact ⟨k0_4, k2_4, k3_4, k4_4, k5_4, k6_4⟩) ?_
                    clear hK K'
                    refine wpAnyT_one (i := 23) (by kernel_rfl) rfl rfl (fun K' hK => ?_)
                    obtain ⟨r0, r1, r2, r3, r4, r5, r6⟩ := UBox.of HD4.out
                    have q := frozen_no HD4.out
                    have q0 := q 0
                    have q1 := q 1
                    have q2 := q 2
                    have q3 := q 3
                    have q4 := q 4
                    have q5 := q 5
                    have q6 := q 6
                    have HBO := hide' (ubox_set HD4.out (.int .i64 (p0 : Int)) (.int .i64 0) (.int .i64 (p2 : Int)) (.int .i64 (p3 : Int)) (.int .i64 (1 + (p4 : Int))) (.int .i64 (1 + (p5 : Int))) (.int .i64 (1 + (p6 : Int))) _ rfl)
                    go_simp
                    refine hK.out _ _ (fun h => absurd rfl h) ?_
                    clear hK K' r0 r1 r2 r3 r4 r5 r6 q q0 q1 q2 q3 q4 q5 q6
                    refine wpAnyT_done (by kernel_rfl) ?_ _
                    have HBL := hide' (HB4.out.trans (HBO.out.2 _ HR4.out))
                    have HBA := hide' HBO.out.1
                    have HX1 : Hid (_ = some (Value.int .i64 x1)) := ((HBO.out.2 _ (Nat.le_refl _)).cell (p := ⟨Q, 1, none⟩) HQ4.out).trans m1_4
                    have HX6 : Hid (_ = some (Value.int .i64 x6)) := ((HBO.out.2 _ (Nat.le_refl _)).cell (p := ⟨Q, 6, none⟩) HQ4.out).trans k6_4
                    clear HBO k0_4 k2_4 k3_4 k4_4 k5_4 k6_4 m1_4
                    go_wp2_with fail
                    go_meet
                    case rel => exact ⟨P4, rfl, HR4, HQ4, HBA, HX1, HX6, HBL⟩
                · go_simp
                  obtain ⟨W5, hW5⟩ : ∃ Y, Y = World.alloc X0 (.cells #[.int .i64 0, .int .i64 0, .int .i64 0, .int .i64 0, .int .i64 0, .int .i64 0, .int .i64 0] 47) := ⟨_, rfl⟩
                  obtain ⟨P5, hP5⟩ : ∃ P, P = X0.heap.size := ⟨_, rfl⟩
                  rw [← hW5, ← hP5]
                  have HS5 : Hid (Below X0.heap.size X0 W5) := by rw [hW5]; exact (Below.refl _ _).alloc (Nat.le_refl _) _
                  have HD5 : Hid (W5.heap[P5]? = some (.cells #[.int .i64 0, .int .i64 0, .int .i64 0, .int .i64 0, .int .i64 0, .int .i64 0, .int .i64 0] 47 (0, 0))) := by rw [hW5, hP5]; exact heap_alloc_new _ _
                  have HQ5 : Hid (Q < P5) := by rw [hP5]; exact World.block_lt_of_cell? _ _ k0
                  have HR5 : Hid (wr.heap.size ≤ P5) := by rw [hP5]; exact HB0.out.size
                  have HB5 := hide' (HB0.out.trans (HS5.out.mono HB0.out.size))
                  have HC5 : Hid (∀ j u, X0.cell? ⟨Q, j, none⟩ = some u → W5.cell? ⟨Q, j, none⟩ = some u) := fun j u h => (HS5.out.cell (World.block_lt_of_cell? _ _ h)).trans h
                  clear hW5 hP5
                  have k0_5 := HC5.out _ _ k0
                  have k2_5 := HC5.out _ _ k2
                  have k3_5 := HC5.out _ _ k3
                  have k4_5 := HC5.out _ _ k4
                  have k5_5 := HC5.out _ _ k5
                  have k6_5 := HC5.out _ _ k6
                  have m1_5 := HC5.out _ _ m1
                  clear k0 k2 k3 k4 k5 k6 m1
                  refine hK.out _ _ (fun _ => by exact ⟨k0_5, k2_5, k3_5, k4_5, k5_5, k6_5⟩) ?_
                  clear hK K'
                  refine wpAnyT_one (i := 11) (by kernel_rfl) rfl rfl (fun K' hK => ?_)
                  go_simp
                  go_at_call 21
                  refine (HP4.out _).mono ?_
                  rintro e w' ⟨rfl, hw'⟩
                  rw [hw']
                  clear hw'
                  refine hK.out _ _ (fun _ => by exact ⟨k0_5, k2_5, k3_5, k4_5, k5_5, k6_5⟩) ?_
                  clear hK K'
                  refine wpAnyD_takeAt 12 (some 33) (v := ?_) rfl (by kernel_rfl) (by kernel_rfl) (by kernel_rfl) (by kernel_rfl) (by kernel_rfl) (fun _ _ _ h => h) (by exact ⟨k0_5, k2_5, k3_5, k4_5, k5_5, k6_5⟩) (fun o hop => ?_) ?_
                  rotate_left
                  · injection hop with hop
                    subst hop
                    refine ⟨rfl, fun W hW => ?_⟩
                    obtain ⟨s0, s1, s2, s3, s4, s5⟩ := hW
                    go_simp
                    first
                    | rfl
                    | rw [if_neg (by omega)]
                  try simp only [Act.put, List.setIfInBounds_toArray, List.set_cons_zero, List.set_cons_succ]
                  refine wpAnyT_one (i := 15) (by kernel_rfl) rfl rfl (fun K' hK => ?_)
                  go_simp
                  go_at_call 21
                  refine (HP5.out _).mono ?_
                  rintro e w' ⟨rfl, hw'⟩
                  rw [hw']
                  clear hw'
                  refine hK.out _ _ (fun _ => by exact ⟨k0_5, k2_5, k3_5, k4_5, k5_5, k6_5⟩) ?_
                  clear hK K'
                  refine wpAnyD_takeAt 16 (some 37) (v := ?_) rfl (by kernel_rfl) (by kernel_rfl) (by kernel_rfl) (by kernel_rfl) (by kernel_rfl) (fun _ _ _ h => h) (by exact ⟨k0_5, k2_5, k3_5, k4_5, k5_5, k6_5⟩) (fun o hop => ?_) ?_
                  rotate_left
                  · injection hop with hop
                    subst hop
                    refine ⟨rfl, fun W hW => ?_⟩
                    obtain ⟨s0, s1, s2, s3, s4, s5⟩ := hW
                    go_simp
                    first
                    | rfl
                    | rw [if_neg (by omega)]
                  try simp only [Act.put, List.setIfInBounds_toArray, List.set_cons_zero, List.set_cons_succ]
                  refine wpAnyT_one (i := 19) (by kernel_rfl) rfl rfl (fun K' hK => ?_)
                  go_simp
                  go_at_call 21
                  refine (HP6.out _).mono ?_
                  rintro e w' ⟨rfl, hw'⟩
                  rw [hw']
                  clear hw'
                  refine hK.out _ _ (fun _ => by exact ⟨k0_5, k2_5, k3_5, k4_5, k5_5, k6_5⟩) ?_
                  clear hK K'
                  refine wpAnyD_takeAt 20 (some 41) (v := ?_) rfl (by kernel_rfl) (by kernel_rfl) (by kernel_rfl) (by kernel_rfl) (by kernel_rfl) (fun _ _ _ h => h) (by exact ⟨k0_5, k2_5, k3_5, k4_5, k5_5, k6_5⟩) (fun o hop => ?_) ?_
                  rotate_left
                  · injection hop with hop
                    subst hop
                    refine ⟨rfl, fun W hW => ?_⟩
                    obtain ⟨s0, s1, s2, s3, s4, s5⟩ := hW
                    go_simp
                    first
                    | rfl
                    | rw [if_neg (by omega)]
                  try simp only [Act.put, List.setIfInBounds_toArray, List.set_cons_zero, List.set_cons_succ]
                  refine wpAnyT_one (i := 21) (by kernel_rfl) rfl rfl (fun K' hK => ?_)
                  go_simp
                  refine hK.out _ _ (fun _ => by exact ⟨k0_5, k2_5, k3_5, k4_5, k5_5, k6_5⟩) ?_
                  clear hK K'
                  refine wpAnyT_one (i := 23) (by kernel_rfl) rfl rfl (fun K' hK => ?_)
                  obtain ⟨r0, r1, r2, r3, r4, r5, r6⟩ := UBox.of HD5.out
                  have q := frozen_no HD5.out
                  have q0 := q 0
                  have q1 := q 1
                  have q2 := q 2
                  have q3 := q 3
                  have q4 := q 4
                  have q5 := q 5
                  have q6 := q 6
                  have HBO := hide' (ubox_set HD5.out (.int .i64 (p0 : Int)) (.int .i64 0) (.int .i64 (p2 : Int)) (.int .i64 (p3 : Int)) (.int .i64 (1 + (p4 : Int))) (.int .i64 (1 + (p5 : Int))) (.int .i64 (1 + (p6 : Int))) _ rfl)
                  go_simp
                  refine hK.out _ _ (fun h => absurd rfl h) ?_
                  clear hK K' r0 r1 r2 r3 r4 r5 r6 q q0 q1 q2 q3 q4 q5 q6
                  refine wpAnyT_done (by kernel_rfl) ?_ _
                  have HBL := hide' (HB5.out.trans (HBO.out.2 _ HR5.out))
                  have HBA := hide' HBO.out.1
                  have HX1 : Hid (_ = some (Value.int .i64 x1)) := ((HBO.out.2 _ (Nat.le_refl _)).cell (p := ⟨Q, 1, none⟩) HQ5.out).trans m1_5
                  have HX6 : Hid (_ = some (Value.int .i64 x6)) := ((HBO.out.2 _ (Nat.le_refl _)).cell (p := ⟨Q, 6, none⟩) HQ5.out).trans k6_5
                  clear HBO k0_5 k2_5 k3_5 k4_5 k5_5 k6_5 m1_5
                  go_wp2_with fail
                  go_meet
                  case rel => exact ⟨P5, rfl, HR5, HQ5, HBA, HX1, HX6, HBL⟩
              · go_simp
                obtain ⟨W6, hW6⟩ : ∃ Y, Y = World.alloc X0 (.cells #[.int .i64 0, .int .i64 0, .int .i64 0, .int .i64 0, .int .i64 0, .int .i64 0, .int .i64 0] 47) := ⟨_, rfl⟩
                obtain ⟨P6, hP6⟩ : ∃ P, P = X0.heap.size := ⟨_, rfl⟩
                rw [← hW6, ← hP6]
                have HS6 : Hid (Below X0.heap.size X0 W6) := by rw [hW6]; exact (Below.refl _ _).alloc (Nat.le_refl _) _
                have HD6 : Hid (W6.heap[P6]? = some (.cells #[.int .i64 0, .int .i64 0, .int .i64 0, .int .i64 0, .int .i64 0, .int .i64 0, .int .i64 0] 47 (0, 0))) := by rw [hW6, hP6]; exact heap_alloc_new _ _
                have HQ6 : Hid (Q < P6) := by rw [hP6]; exact World.block_lt_of_cell? _ _ k0
                have HR6 : Hid (wr.heap.size ≤ P6) := by rw [hP6]; exact HB0.out.size
                have HB6 := hide' (HB0.out.trans (HS6.out.mono HB0.out.size))
                have HC6 : Hid (∀ j u, X0.cell? ⟨Q, j, none⟩ = some u → W6.cell? ⟨Q, j, none⟩ = some u) := fun j u h => (HS6.out.cell (World.block_lt_of_cell? _ _ h)).trans h
                clear hW6 hP6
                have k0_6 := HC6.out _ _ k0
                have k2_6 := HC6.out _ _ k2
                have k3_6 := HC6.out _ _ k3
                have k4_6 := HC6.out _ _ k4
                have k5_6 := HC6.out _ _ k5
                have k6_6 := HC6.out _ _ k6
                have m1_6 := HC6.out _ _ m1
                clear k0 k2 k3 k4 k5 k6 m1
                refine hK.out _ _ (fun _ => by exact ⟨k0_6, k2_6, k3_6, k4_6, k5_6, k6_6⟩) ?_
                clear hK K'
                refine wpAnyT_one (i := 8) (by kernel_rfl) rfl rfl (fun K' hK => ?_)
                go_simp
                go_at_call 21
                refine (HP3.out _).mono ?_
                rintro e w' ⟨rfl, hw'⟩
                rw [hw']
                clear hw'
                refine hK.out _ _ (fun _ => by exact ⟨k0_6, k2_6, k3_6, k4_6, k5_6, k6_6⟩) ?_
                clear hK K'
                refine wpAnyT_one (i := 11) (by kernel_rfl) rfl rfl (fun K' hK => ?_)
                go_simp
                go_at_call 21
                refine (HP4.out _).mono ?_
                rintro e w' ⟨rfl, hw'⟩
                rw [hw']
                clear hw'
                refine hK.out _ _ (fun _ => by exact ⟨k0_6, k2_6, k3_6, k4_6, k5_6, k6_6⟩) ?_
                clear hK K'
                refine wpAnyD_takeAt 12 (some 33) (v := ?_) rfl (by kernel_rfl) (by kernel_rfl) (by kernel_rfl) (by kernel_rfl) (by kernel_rfl) (fun _ _ _ h => h) (by exact ⟨k0_6, k2_6, k3_6, k4_6, k5_6, k6_6⟩) (fun o hop => ?_) ?_
                rotate_left
                · injection hop with hop
                  subst hop
                  refine ⟨rfl, fun W hW => ?_⟩
                  obtain ⟨s0, s1, s2, s3, s4, s5⟩ := hW
                  go_simp
                  first
                  | rfl
                  | rw [if_neg (by omega)]
                try simp only [Act.put, List.setIfInBounds_toArray, List.set_cons_zero, List.set_cons_succ]
                refine wpAnyT_one (i := 15) (by kernel_rfl) rfl rfl (fun K' hK => ?_)
                go_simp
                go_at_call 21
                refine (HP5.out _).mono ?_
                rintro e w' ⟨rfl, hw'⟩
                rw [hw']
                clear hw'
                refine hK.out _ _ (fun _ => by exact ⟨k0_6, k2_6, k3_6, k4_6, k5_6, k6_6⟩) ?_
                clear hK K'
                refine wpAnyD_takeAt 16 (some 37) (v := ?_) rfl (by kernel_rfl) (by kernel_rfl) (by kernel_rfl) (by kernel_rfl) (by kernel_rfl) (fun _ _ _ h => h) (by exact ⟨k0_6, k2_6, k3_6, k4_6, k5_6, k6_6⟩) (fun o hop => ?_) ?_
                rotate_left
                · injection hop with hop
                  subst hop
                  refine ⟨rfl, fun W hW => ?_⟩
                  obtain ⟨s0, s1, s2, s3, s4, s5⟩ := hW
                  go_simp
                  first
                  | rfl
                  | rw [if_neg (by omega)]
                try simp only [Act.put, List.setIfInBounds_toArray, List.set_cons_zero, List.set_cons_succ]
                refine wpAnyT_one (i := 19) (by kernel_rfl) rfl rfl (fun K' hK => ?_)
                go_simp
                go_at_call 21
                refine (HP6.out _).mono ?_
                rintro e w' ⟨rfl, hw'⟩
                rw [hw']
                clear hw'
                refine hK.out _ _ (fun _ => by exact ⟨k0_6, k2_6, k3_6, k4_6, k5_6, k6_6⟩) ?_
                clear hK K'
                refine wpAnyD_takeAt 20 (some 41) (v := ?_) rfl (by kernel_rfl) (by kernel_rfl) (by kernel_rfl) (by kernel_rfl) (by kernel_rfl) (fun _ _ _ h => h) (by exact ⟨k0_6, k2_6, k3_6, k4_6, k5_6, k6_6⟩) (fun o hop => ?_) ?_
                rotate_left
                · injection hop with hop
                  subst hop
                  refine ⟨rfl, fun W hW => ?_⟩
                  obtain ⟨s0, s1, s2, s3, s4, s5⟩ := hW
                  go_simp
                  first
                  | rfl
                  | rw [if_neg (by omega)]
                try simp only [Act.put, List.setIfInBounds_toArray, List.set_cons_zero, List.set_cons_succ]
                refine wpAnyT_one (i := 21) (by kernel_rfl) rfl rfl (fun K' hK => ?_)
                go_simp
                refine hK.out _ _ (fun _ => by exact ⟨k0_6, k2_6, k3_6, k4_6, k5_6, k6_6⟩) ?_
                clear hK K'
                refine wpAnyT_one (i := 23) (by kernel_rfl) rfl rfl (fun K' hK => ?_)
                obtain ⟨r0, r1, r2, r3, r4, r5, r6⟩ := UBox.of HD6.out
                have q := frozen_no HD6.out
                have q0 := q 0
                have q1 := q 1
                have q2 := q 2
                have q3 := q 3
                have q4 := q 4
                have q5 := q 5
                have q6 := q 6
                have HBO := hide' (ubox_set HD6.out (.int .i64 (p0 : Int)) (.int .i64 0) (.int .i64 (p2 : Int)) (.int .i64 (p3 : Int)) (.int .i64 (1 + (p4 : Int))) (.int .i64 (1 + (p5 : Int))) (.int .i64 (1 + (p6 : Int))) _ rfl)
                go_simp
                refine hK.out _ _ (fun h => absurd rfl h) ?_
                clear hK K' r0 r1 r2 r3 r4 r5 r6 q q0 q1 q2 q3 q4 q5 q6
                refine wpAnyT_done (by kernel_rfl) ?_ _
                have HBL := hide' (HB6.out.trans (HBO.out.2 _ HR6.out))
                have HBA := hide' HBO.out.1
                have HX1 : Hid (_ = some (Value.int .i64 x1)) := ((HBO.out.2 _ (Nat.le_refl _)).cell (p := ⟨Q, 1, none⟩) HQ6.out).trans m1_6
                have HX6 : Hid (_ = some (Value.int .i64 x6)) := ((HBO.out.2 _ (Nat.le_refl _)).cell (p := ⟨Q, 6, none⟩) HQ6.out).trans k6_6
                clear HBO k0_6 k2_6 k3_6 k4_6 k5_6 k6_6 m1_6
                go_wp2_with fail
                go_meet
                case rel => exact ⟨P6, rfl, HR6, HQ6, HBA, HX1, HX6, HBL⟩
            · go_simp
              obtain ⟨W7, hW7⟩ : ∃ Y, Y = World.alloc X0 (.cells #[.int .i64 0, .int .i64 0, .int .i64 0, .int .i64 0, .int .i64 0, .int .i64 0, .int .i64 0] 47) := ⟨_, rfl⟩
              obtain ⟨P7, hP7⟩ : ∃ P, P = X0.heap.size := ⟨_, rfl⟩
              rw [← hW7, ← hP7]
              have HS7 : Hid (Below X0.heap.size X0 W7) := by rw [hW7]; exact (Below.refl _ _).alloc (Nat.le_refl _) _
              have HD7 : Hid (W7.heap[P7]? = some (.cells #[.int .i64 0, .int .i64 0, .int .i64 0, .int .i64 0, .int .i64 0, .int .i64 0, .int .i64 0] 47 (0, 0))) := by rw [hW7, hP7]; exact heap_alloc_new _ _
              have HQ7 : Hid (Q < P7) := by rw [hP7]; exact World.block_lt_of_cell? _ _ k0
              have HR7 : Hid (wr.heap.size ≤ P7) := by rw [hP7]; exact HB0.out.size
              have HB7 := hide' (HB0.out.trans (HS7.out.mono HB0.out.size))
              have HC7 : Hid (∀ j u, X0.cell? ⟨Q, j, none⟩ = some u → W7.cell? ⟨Q, j, none⟩ = some u) := fun j u h => (HS7.out.cell (World.block_lt_of_cell? _ _ h)).trans h
              clear hW7 hP7
              have k0_7 := HC7.out _ _ k0
              have k2_7 := HC7.out _ _ k2
              have k3_7 := HC7.out _ _ k3
              have k4_7 := HC7.out _ _ k4
              have k5_7 := HC7.out _ _ k5
              have k6_7 := HC7.out _ _ k6
              have m1_7 := HC7.out _ _ m1
              clear k0 k2 k3 k4 k5 k6 m1
              refine hK.out _ _ (fun _ => by exact ⟨k0_7, k2_7, k3_7, k4_7, k5_7, k6_7⟩) ?_
              clear hK K'
              refine wpAnyT_one (i := 5) (by kernel_rfl) rfl rfl (fun K' hK => ?_)
              go_simp
              go_at_call 21
              refine (HP2.out _).mono ?_
              rintro e w' ⟨rfl, hw'⟩
              rw [hw']
              clear hw'
              refine hK.out _ _ (fun _ => by exact ⟨k0_7, k2_7, k3_7, k4_7, k5_7, k6_7⟩) ?_
              clear hK K'
              refine wpAnyT_one (i := 8) (by kernel_rfl) rfl rfl (fun K' hK => ?_)
              go_simp
              go_at_call 21
              refine (HP3.out _).mono ?_
              rintro e w' ⟨rfl, hw'⟩
              rw [hw']
              clear hw'
              refine hK.out _ _ (fun _ => by exact ⟨k0_7, k2_7, k3_7, k4_7, k5_7, k6_7⟩) ?_
              clear hK K'
              refine wpAnyT_one (i := 11) (by kernel_rfl) rfl rfl (fun K' hK => ?_)
              go_simp
              go_at_call 21
              refine (HP4.out _).mono ?_
              rintro e w' ⟨rfl, hw'⟩
              rw [hw']
              clear hw'
              refine hK.out _ _ (fun _ => by exact ⟨k0_7, k2_7, k3_7, k4_7, k5_7, k6_7⟩) ?_
              clear hK K'
              refine wpAnyD_takeAt 12 (some 33) (v := ?_) rfl (by kernel_rfl) (by kernel_rfl) (by kernel_rfl) (by kernel_rfl) (by kernel_rfl) (fun _ _ _ h => h) (by exact ⟨k0_7, k2_7, k3_7, k4_7, k5_7, k6_7⟩) (fun o hop => ?_) ?_
              rotate_left
              · injection hop with hop
                subst hop
                refine ⟨rfl, fun W hW => ?_⟩
                obtain ⟨s0, s1, s2, s3, s4, s5⟩ := hW
                go_simp
                first
                | rfl
                | rw [if_neg (by omega)]
              try simp only [Act.put, List.setIfInBounds_toArray, List.set_cons_zero, List.set_cons_succ]
              refine wpAnyT_one (i := 15) (by kernel_rfl) rfl rfl (fun K' hK => ?_)
              go_simp
              go_at_call 21
              refine (HP5.out _).mono ?_
              rintro e w' ⟨rfl, hw'⟩
              rw [hw']
              clear hw'
              refine hK.out _ _ (fun _ => by exact ⟨k0_7, k2_7, k3_7, k4_7, k5_7, k6_7⟩) ?_
              clear hK K'
              refine wpAnyD_takeAt 16 (some 37) (v := ?_) rfl (by kernel_rfl) (by kernel_rfl) (by kernel_rfl) (by kernel_rfl) (by kernel_rfl) (fun _ _ _ h => h) (by exact ⟨k0_7, k2_7, k3_7, k4_7, k5_7, k6_7⟩) (fun o hop => ?_) ?_
              rotate_left
              · injection hop with hop
                subst hop
                refine ⟨rfl, fun W hW => ?_⟩
                obtain ⟨s0, s1, s2, s3, s4, s5⟩ := hW
                go_simp
                first
                | rfl
                | rw [if_neg (by omega)]
              try simp only [Act.put, List.setIfInBounds_toArray, List.set_cons_zero, List.set_cons_succ]
              refine wpAnyT_one (i := 19) (by kernel_rfl) rfl rfl (fun K' hK => ?_)
              go_simp
              go_at_call 21
              refine (HP6.out _).mono ?_
              rintro e w' ⟨rfl, hw'⟩
              rw [hw']
              clear hw'
              refine hK.out _ _ (fun _ => by exact ⟨k0_7, k2_7, k3_7, k4_7, k5_7, k6_7⟩) ?_
              clear hK K'
              refine wpAnyD_takeAt 20 (some 41) (v := ?_) rfl (by kernel_rfl) (by kernel_rfl) (by kernel_rfl) (by kernel_rfl) (by kernel_rfl) (fun _ _ _ h => h) (by exact ⟨k0_7, k2_7, k3_7, k4_7, k5_7, k6_7⟩) (fun o hop => ?_) ?_
              rotate_left
              · injection hop with hop
                subst hop
                refine ⟨rfl, fun W hW => ?_⟩
                obtain ⟨s0, s1, s2, s3, s4, s5⟩ := hW
                go_simp
                first
                | rfl
                | rw [if_neg (by omega)]
              try simp only [Act.put, List.setIfInBounds_toArray, List.set_cons_zero, List.set_cons_succ]
              refine wpAnyT_one (i := 21) (by kernel_rfl) rfl rfl (fun K' hK => ?_)
              go_simp
              refine hK.out _ _ (fun _ => by exact ⟨k0_7, k2_7, k3_7, k4_7, k5_7, k6_7⟩) ?_
              clear hK K'
              refine wpAnyT_one (i := 23) (by kernel_rfl) rfl rfl (fun K' hK => ?_)
              obtain ⟨r0, r1, r2, r3, r4, r5, r6⟩ := UBox.of HD7.out
              have q := frozen_no HD7.out
              have q0 := q 0
              have q1 := q 1
              have q2 := q 2
              have q3 := q 3
              have q4 := q 4
              have q5 := q 5
              have q6 := q 6
              have HBO := hide' (ubox_set HD7.out (.int .i64 (p0 : Int)) (.int .i64 0) (.int .i64 (p2 : Int)) (.int .i64 (p3 : Int)) (.int .i64 (1 + (p4 : Int))) (.int .i64 (1 + (p5 : Int))) (.int .i64 (1 + (p6 : Int))) _ rfl)
              go_simp
              refine hK.out _ _ (fun h => absurd rfl h) ?_
              clear hK K' r0 r1 r2 r3 r4 r5 r6 q q0 q1 q2 q3 q4 q5 q6
              refine wpAnyT_done (by kernel_rfl) ?_ _
              have HBL := hide' (HB7.out.trans (HBO.out.2 _ HR7.out))
              have HBA := hide' HBO.out.1
              have HX1 : Hid (_ = some (Value.int .i64 x1)) := ((HBO.out.2 _ (Nat.le_refl _)).cell (p := ⟨Q, 1, none⟩) HQ7.out).trans m1_7
              have HX6 : Hid (_ = some (Value.int .i64 x6)) := ((HBO.out.2 _ (Nat.le_refl _)).cell (p := ⟨Q, 6, none⟩) HQ7.out).trans k6_7
              clear HBO k0_7 k2_7 k3_7 k4_7 k5_7 k6_7 m1_7
              go_wp2_with fail
              go_meet
              case rel => exact ⟨P7, rfl, HR7, HQ7, HBA, HX1, HX6, HBL⟩
          · go_simp
            obtain ⟨W8, hW8⟩ : ∃ Y, Y = World.alloc X0 (.cells #[.int .i64 0, .int .i64 0, .int .i64 0, .int .i64 0, .int .i64 0, .int .i64 0, .int .i64 0] 47) := ⟨_, rfl⟩
            obtain ⟨P8, hP8⟩ : ∃ P, P = X0.heap.size := ⟨_, rfl⟩
            rw [← hW8, ← hP8]
            have HS8 : Hid (Below X0.heap.size X0 W8) := by rw [hW8]; exact (Below.refl _ _).alloc (Nat.le_refl _) _
            have HD8 : Hid (W8.heap[P8]? = some (.cells #[.int .i64 0, .int .i64 0, .int .i64 0, .int .i64 0, .int .i64 0, .int .i64 0, .int .i64 0] 47 (0, 0))) := by rw [hW8, hP8]; exact heap_alloc_new _ _
            have HQ8 : Hid (Q < P8) := by rw [hP8]; exact World.block_lt_of_cell? _ _ k0
            have HR8 : Hid (wr.heap.size ≤ P8) := by rw [hP8]; exact HB0.out.size
            have HB8 := hide' (HB0.out.trans (HS8.out.mono HB0.out.size))
            have HC8 : Hid (∀ j u, X0.cell? ⟨Q, j, none⟩ = some u → W8.cell? ⟨Q, j, none⟩ = some u) := fun j u h => (HS8.out.cell (World.block_lt_of_cell? _ _ h)).trans h
            clear hW8 hP8
            have k0_8 := HC8.out _ _ k0
            have k2_8 := HC8.out _ _ k2
            have k3_8 := HC8.out _ _ k3
            have k4_8 := HC8.out _ _ k4
            have k5_8 := HC8.out _ _ k5
            have k6_8 := HC8.out _ _ k6
            have m1_8 := HC8.out _ _ m1
            clear k0 k2 k3 k4 k5 k6 m1
            refine hK.out _ _ (fun _ => by exact ⟨k0_8, k2_8, k3_8, k4_8, k5_8, k6_8⟩) ?_
            clear hK K'
            refine wpAnyT_one (i := 2) (by kernel_rfl) rfl rfl (fun K' hK => ?_)
            go_simp
            go_at_call 21
            refine (HP0.out _).mono ?_
            rintro e w' ⟨rfl, hw'⟩
            rw [hw']
            clear hw'
            refine hK.out _ _ (fun _ => by exact ⟨k0_8, k2_8, k3_8, k4_8, k5_8, k6_8⟩) ?_
            clear hK K'
            refine wpAnyT_one (i := 5) (by kernel_rfl) rfl rfl (fun K' hK => ?_)
            go_simp
            go_at_call 21
            refine (HP2.out _).mono ?_
            rintro e w' ⟨rfl, hw'⟩
            rw [hw']
            clear hw'
            refine hK.out _ _ (fun _ => by exact ⟨k0_8, k2_8, k3_8, k4_8, k5_8, k6_8⟩) ?_
            clear hK K'
            refine wpAnyT_one (i := 8) (by kernel_rfl) rfl rfl (fun K' hK => ?_)
            go_simp
            go_at_call 21
            refine (HP3.out _).mono ?_
            rintro e w' ⟨rfl, hw'⟩
            rw [hw']
            clear hw'
            refine hK.out _ _ (fun _ => by exact ⟨k0_8, k2_8, k3_8, k4_8, k5_8, k6_8⟩) ?_
            clear hK K'
            refine wpAnyT_one (i := 11) (by kernel_rfl) rfl rfl (fun K' hK => ?_)
            go_simp
            go_at_call 21
            refine (HP4.out _).mono ?_
            rintro e w' ⟨rfl, hw'⟩
            rw [hw']
            clear hw'
            refine hK.out _ _ (fun _ => by exact ⟨k0_8, k2_8, k3_8, k4_8, k5_8, k6_8⟩) ?_
            clear hK K'
            refine wpAnyD_takeAt 12 (some 33) (v := ?_) rfl (by kernel_rfl) (by kernel_rfl) (by kernel_rfl) (by kernel_rfl) (by kernel_rfl) (fun _ _ _ h => h) (by exact ⟨k0_8, k2_8, k3_8, k4_8, k5_8, k6_8⟩) (fun o hop => ?_) ?_
            rotate_left
            · injection hop with hop
              subst hop
              refine ⟨rfl, fun W hW => ?_⟩
              obtain ⟨s0, s1, s2, s3, s4, s5⟩ := hW
              go_simp
              first
              | rfl
              | rw [if_neg (by omega)]
            try simp only [Act.put, List.setIfInBounds_toArray, List.set_cons_zero, List.set_cons_succ]
            refine wpAnyT_one (i := 15) (by kernel_rfl) rfl rfl (fun K' hK => ?_)
            go_simp
            go_at_call 21
            refine (HP5.out _).mono ?_
            rintro e w' ⟨rfl, hw'⟩
            rw [hw']
            clear hw'
            refine hK.out _ _ (fun _ => by exact ⟨k0_8, k2_8, k3_8, k4_8, k5_8, k6_8⟩) ?_
            clear hK K'
            refine wpAnyD_takeAt 16 (some 37) (v := ?_) rfl (by kernel_rfl) (by kernel_rfl) (by kernel_rfl) (by kernel_rfl) (by kernel_rfl) (fun _ _ _ h => h) (by exact ⟨k0_8, k2_8, k3_8, k4_8, k5_8, k6_8⟩) (fun o hop => ?_) ?_
            rotate_left
            · injection hop with hop
              subst hop
              refine ⟨rfl, fun W hW => ?_⟩
              obtain ⟨s0, s1, s2, s3, s4, s5⟩ := hW
              go_simp
              first
              | rfl
              | rw [if_neg (by omega)]
            try simp only [Act.put, List.setIfInBounds_toArray, List.set_cons_zero, List.set_cons_succ]
            refine wpAnyT_one (i := 19) (by kernel_rfl) rfl rfl (fun K' hK => ?_)
            go_simp
            go_at_call 21
            refine (HP6.out _).mono ?_
            rintro e w' ⟨rfl, hw'⟩
            rw [hw']
            clear hw'
            refine hK.out _ _ (fun _ => by exact ⟨k0_8, k2_8, k3_8, k4_8, k5_8, k6_8⟩) ?_
            clear hK K'
            refine wpAnyD_takeAt 20 (some 41) (v := ?_) rfl (by kernel_rfl) (by kernel_rfl) (by kernel_rfl) (by kernel_rfl) (by kernel_rfl) (fun _ _ _ h => h) (by exact ⟨k0_8, k2_8, k3_8, k4_8, k5_8, k6_8⟩) (fun o hop => ?_) ?_
            rotate_left
            · injection hop with hop
              subst hop
              refine ⟨rfl, fun W hW => ?_⟩
              obtain ⟨s0, s1, s2, s3, s4, s5⟩ := hW
              go_simp
              first
              | rfl
              | rw [if_neg (by omega)]
            try simp only [Act.put, List.setIfInBounds_toArray, List.set_cons_zero, List.set_cons_succ]
            refine wpAnyT_one (i := 21) (by kernel_rfl) rfl rfl (fun K' hK => ?_)
            go_simp
            refine hK.out _ _ (fun _ => by exact ⟨k0_8, k2_8, k3_8, k4_8, k5_8, k6_8⟩) ?_
            clear hK K'
            refine wpAnyT_one (i := 23) (by kernel_rfl) rfl rfl (fun K' hK => ?_)
            obtain ⟨r0, r1, r2, r3, r4, r5, r6⟩ := UBox.of HD8.out
            have q := frozen_no HD8.out
            have q0 := q 0
            have q1 := q 1
            have q2 := q 2
            have q3 := q 3
            have q4 := q 4
            have q5 := q 5
            have q6 := q 6
            have HBO := hide' (ubox_set HD8.out (.int .i64 (p0 : Int)) (.int .i64 0) (.int .i64 (p2 : Int)) (.int .i64 (p3 : Int)) (.int .i64 (1 + (p4 : Int))) (.int .i64 (1 + (p5 : Int))) (.int .i64 (1 + (p6 : Int))) _ rfl)
            go_simp
            refine hK.out _ _ (fun h => absurd rfl h) ?_
            clear hK K' r0 r1 r2 r3 r4 r5 r6 q q0 q1 q2 q3 q4 q5 q6
            refine wpAnyT_done (by kernel_rfl) ?_ _
            have HBL := hide' (HB8.out.trans (HBO.out.2 _ HR8.out))
            have HBA := hide' HBO.out.1
            have HX1 : Hid (_ = some (Value.int .i64 x1)) := ((HBO.out.2 _ (Nat.le_refl _)).cell (p := ⟨Q, 1, none⟩) HQ8.out).trans m1_8
            have HX6 : Hid (_ = some (Value.int .i64 x6)) := ((HBO.out.2 _ (Nat.le_refl _)).cell (p := ⟨Q, 6, none⟩) HQ8.out).trans k6_8
            clear HBO k0_8 k2_8 k3_8 k4_8 k5_8 k6_8 m1_8
            go_wp2_with fail
            go_meet
            case rel => exact ⟨P8, rfl, HR8, HQ8, HBA, HX1, HX6, HBL⟩
        case rest =>
          obtain ⟨P, rfl, HRP, HQP, HBA, HX1, HX6, HBL⟩ := hcut
          go_wp2_with fail
          refine wp_region_tail (fun W => W.cell? ⟨P, 0, none⟩ = some (.int .i64 (p0 : Int)) ∧ W.cell? ⟨Q, 1, none⟩ = some (.int .i64 x1)) 7 (by kernel_rfl) ?_
          obtain ⟨Y, hY⟩ : ∃ x, x = wc.drew := ⟨_, rfl⟩
          rw [← hY]
          have HYP : Hid (Y.heap[P]? = some (.cells #[.int .i64 (p0 : Int), .int .i64 0, .int .i64 (p2 : Int), .int .i64 (p3 : Int), .int .i64 (1 + (p4 : Int)), .int .i64 (1 + (p5 : Int)), .int .i64 (1 + (p6 : Int))] 47 (0, 0))) := by rw [hY]; exact HBA.out
          have HYB : Hid (Below wr.heap.size wr Y) := by rw [hY]; exact HBL.out.drew
          have t1 : Y.cell? ⟨Q, 1, none⟩ = some (.int .i64 x1) := by rw [hY]; exact HX1.out
          have t6 : Y.cell? ⟨Q, 6, none⟩ = some (.int .i64 x6) := by rw [hY]; exact HX6.out
          obtain ⟨t0, b1, _, _, _, _, b6⟩ := UBox.of HYP.out
          have g1 := frozen_no HYP.out 1
          have g6 := frozen_no HYP.out 6
          clear hY
          obtain ⟨W7, hW7⟩ : ∃ x, x = Y.setCell ⟨P, 1, none⟩ (.int .i64 ((p0 : Int) + (p1 : Int))) := ⟨_, rfl⟩
          have H7 : Hid (W7.heap[P]? = some (.cells #[.int .i64 (p0 : Int), .int .i64 ((p0 : Int) + (p1 : Int)), .int .i64 (p2 : Int), .int .i64 (p3 : Int), .int .i64 (1 + (p4 : Int)), .int .i64 (1 + (p5 : Int)), .int .i64 (1 + (p6 : Int))] 47 (0, 0))) := by rw [hW7, set_any HYP.out 1 _]; rfl
          have HB7 : Hid (Below wr.heap.size wr W7) := by rw [hW7]; exact HYB.out.trans ((Only.set P _ _ _).below HRP.out)
          have HT6 : Hid (W7.cell? ⟨Q, 6, none⟩ = some (.int .i64 x6)) := by rw [hW7]; exact (((Only.set P 1 _ Y).below (Nat.le_refl P)).cell (p := ⟨Q, 6, none⟩) HQP.out).trans t6
          have HW7 := hide' hW7
          clear hW7
          refine wpAnyD_takeAt 0 (some 43) (v := ?_) rfl (by kernel_rfl) (by kernel_rfl) (by kernel_rfl) (by kernel_rfl) (by kernel_rfl) (fun _ _ _ h => h) (by exact ⟨t0, t1⟩) (fun o hop => ?_) ?_
          rotate_left
          · injection hop with hop
            subst hop
            refine ⟨rfl, fun W hW => ?_⟩
            obtain ⟨s0, s1⟩ := hW
            go_simp
            first
            | rfl
            | rw [if_neg (by omega)]
          try simp only [Act.put, List.setIfInBounds_toArray, List.set_cons_zero, List.set_cons_succ]
          refine wpAnyD_takeAt 1 (some 44) (v := ?_) rfl (by kernel_rfl) (by kernel_rfl) (by kernel_rfl) (by kernel_rfl) (by kernel_rfl) (fun _ _ _ h => h) (by exact ⟨t0, t1⟩) (fun o hop => ?_) ?_
          rotate_left
          · injection hop with hop
            subst hop
            refine ⟨rfl, fun W hW => ?_⟩
            obtain ⟨s0, s1⟩ := hW
            go_simp
            first
            | rfl
            | rw [if_neg (by omega)]
          try simp only [Act.put, List.setIfInBounds_toArray, List.set_cons_zero, List.set_cons_succ]
          refine wpAnyD_takeAt 2 (some 45) (v := ?_) rfl (by kernel_rfl) (by kernel_rfl) (by kernel_rfl) (by kernel_rfl) (by kernel_rfl) (fun _ _ _ h => h) (by exact ⟨t0, t1⟩) (fun o hop => ?_) ?_
          rotate_left
          · injection hop with hop
            subst hop
            refine ⟨rfl, fun W hW => ?_⟩
            obtain ⟨s0, s1⟩ := hW
            go_simp
            first
            | rfl
            | rw [if_neg (by omega)]
          try simp only [Act.put, List.setIfInBounds_toArray, List.set_cons_zero, List.set_cons_succ]
          refine wpAnyD_takeAt 3 (some 46) (v := ?_) rfl (by kernel_rfl) (by kernel_rfl) (by kernel_rfl) (by kernel_rfl) (by kernel_rfl) (fun _ _ _ h => h) (by exact ⟨t0, t1⟩) (fun o hop => ?_) ?_
          rotate_left
          · injection hop with hop
            subst hop
            refine ⟨rfl, fun W hW => ?_⟩
            obtain ⟨s0, s1⟩ := hW
            go_simp
            first
            | rfl
            | rw [if_neg (by omega)]
          try simp only [Act.put, List.setIfInBounds_toArray, List.set_cons_zero, List.set_cons_succ]
          refine wpAnyT_one (i := 4) (by kernel_rfl) rfl rfl (fun K' hK => ?_)
          go_simp
          go_at_call 21
          refine (HP1.out _).mono ?_
          rintro e w' ⟨rfl, hw'⟩
          rw [hw']
          clear hw'
          refine hK.out _ _ (fun _ => by exact ⟨t0, t1⟩) ?_
          clear hK K'
          refine wpAnyT_one (i := 5) (by kernel_rfl) rfl rfl (fun K' hK => ?_)
          go_simp
          refine hK.out _ _ (fun _ => by exact ⟨t0, t1⟩) ?_
          clear hK K'
          refine wpAnyT_one (i := 6) (by kernel_rfl) rfl rfl (fun K' hK => ?_)
          go_simp
          refine hK.out _ _ (fun _ => by exact ⟨t0, t1⟩) ?_
          clear hK K'
          refine wpAnyT_one (i := 7) (by kernel_rfl) rfl rfl (fun K' hK => ?_)
          go_simp
          refine hK.out _ _ (fun h => absurd rfl h) ?_
          clear hK K'
          refine wpAnyT_done (by kernel_rfl) ?_ _
          rw [← HW7.out]
          clear t0 t1 t6 b1 b6 g1 g6
          have t1 := HT6.out
          have t6 := HT6.out
          obtain ⟨_, _, _, _, _, _, b6⟩ := UBox.of H7.out
          have g6 := frozen_no H7.out 6
          by_cases hneg : x6 < 0
          · have hw8 : IntKind.i64.wrap (-(1 + (p6 : Int))) = -(1 + (p6 : Int)) := Go.IntWalk.i64_in _ (by omega)
            obtain ⟨W8, hW8⟩ : ∃ x, x = W7.setCell ⟨P, 6, none⟩ (.int .i64 (-(1 + (p6 : Int)))) := ⟨_, rfl⟩
            have H8 : Hid (W8.heap[P]? = some (.cells #[.int .i64 (p0 : Int), .int .i64 ((p0 : Int) + (p1 : Int)), .int .i64 (p2 : Int), .int .i64 (p3 : Int), .int .i64 (1 + (p4 : Int)), .int .i64 (1 + (p5 : Int)), .int .i64 (-(1 + (p6 : Int)))] 47 (0, 0))) := by rw [hW8, set_any H7.out 6 _]; rfl
            have HB8 : Hid (Below wr.heap.size wr W8) := by rw [hW8]; exact HB7.out.trans ((Only.set P _ _ _).below HRP.out)
            have HW8 := hide' hW8
            clear hW8
            go_upto_region 10 with fail
            rw [← HW8.out]
            clear t1 t6 g6 b6
            obtain ⟨r0, r1, r2, r3, r4, r5, r6⟩ := UBox.of H8.out
            have HO8 := hide' (own_below HOWN.out HB8.out (Nat.le_refl _))
            have hsz : w.heap.size ≤ W8.heap.size := Nat.le_trans HBE.out.size HB8.out.size
            go_wp2_with (at_builtin; refine wpList_append_own _ rfl _ _ 22 rfl w.heap.size 47 i7 _ 7 56 Try.underlying22 hi7 hzz0 hzz1 hzz2 rfl (by decide) _ _ _ rfl (HO8.out.alloc _) ⟨W8.heap.size, 0, none⟩ 1 1 (UnitM.cells (⟨(p0 : Int), (p0 : Int) + (p1 : Int), (p2 : Int), (p3 : Int), 1 + (p4 : Int), 1 + (p5 : Int), -(1 + (p6 : Int))⟩ : UnitM)) rfl rfl (cell_news _ (UnitM.cells (⟨(p0 : Int), (p0 : Int) + (p1 : Int), (p2 : Int), (p3 : Int), 1 + (p4 : Int), 1 + (p5 : Int), -(1 + (p6 : Int))⟩ : UnitM)) 47) (fun a ha => units_one [(⟨(p0 : Int), (p0 : Int) + (p1 : Int), (p2 : Int), (p3 : Int), 1 + (p4 : Int), 1 + (p5 : Int), -(1 + (p6 : Int))⟩ : UnitM)] a (by simpa using ha)) (by unfold maxLen; omega) (by omega) (by simp; omega) ?_; intro v' w2 hown' hgrow _; refine Still.go ?_)
            unfold Still
            have HO9 : Hid (w2.ownsRow w.heap.size 47 7 v' (i + 1) ((us ++ [(⟨(p0 : Int), (p0 : Int) + (p1 : Int), (p2 : Int), (p3 : Int), 1 + (p4 : Int), 1 + (p5 : Int), -(1 + (p6 : Int))⟩ : UnitM)]).flatMap UnitM.cells)) := by
              show World.ownsRow _ _ _ _ _ _ _
              rw [List.flatMap_append, List.flatMap_singleton]
              exact hown'
            have HB9 : Hid (Below w.heap.size w w2) := below_app (HBE.out.trans (HB8.out.mono HBE.out.size)) HO8.out (Nat.le_refl _) hsz hgrow
            have HU9 : Hid ((us ++ [(⟨(p0 : Int), (p0 : Int) + (p1 : Int), (p2 : Int), (p3 : Int), 1 + (p4 : Int), 1 + (p5 : Int), -(1 + (p6 : Int))⟩ : UnitM)]).length = i + 1) := by show _ = _; rw [List.length_append, HUL.out]; rfl
            have HM9 : Hid (MayUs (us ++ [(⟨(p0 : Int), (p0 : Int) + (p1 : Int), (p2 : Int), (p3 : Int), 1 + (p4 : Int), 1 + (p5 : Int), -(1 + (p6 : Int))⟩ : UnitM)])) := mayUs_snoc HMU.out (mayU_made hp0 hp1 hp2 hp3 hp4 hp5 hp6 (by omega))
            clear hown' hgrow r0 r1 r2 r3 r4 r5 r6 HO8
            go_wp2
            go_roundw
            case rel => exact ⟨i + 1, _, by go_num, by show _ ≤ _; omega, by show _ ≤ _; omega, HU9, HM9, HO9, HB9⟩
            case measure => simp [intOf]; omega
          · have H8 := H7
            have HB8 := HB7
            obtain ⟨W8, hW8⟩ : ∃ x, x = W7 := ⟨_, rfl⟩
            rw [← hW8] at H8 HB8
            go_upto_region 10 with fail
            rw [← hW8]
            clear hW8
            clear t1 t6 g6 b6
            obtain ⟨r0, r1, r2, r3, r4, r5, r6⟩ := UBox.of H8.out
            have HO8 := hide' (own_below HOWN.out HB8.out (Nat.le_refl _))
            have hsz : w.heap.size ≤ W8.heap.size := Nat.le_trans HBE.out.size HB8.out.size
            go_wp2_with (at_builtin; refine wpList_append_own _ rfl _ _ 22 rfl w.heap.size 47 i7 _ 7 56 Try.underlying22 hi7 hzz0 hzz1 hzz2 rfl (by decide) _ _ _ rfl (HO8.out.alloc _) ⟨W8.heap.size, 0, none⟩ 1 1 (UnitM.cells (⟨(p0 : Int), (p0 : Int) + (p1 : Int), (p2 : Int), (p3 : Int), 1 + (p4 : Int), 1 + (p5 : Int), 1 + (p6 : Int)⟩ : UnitM)) rfl rfl (cell_news _ (UnitM.cells (⟨(p0 : Int), (p0 : Int) + (p1 : Int), (p2 : Int), (p3 : Int), 1 + (p4 : Int), 1 + (p5 : Int), 1 + (p6 : Int)⟩ : UnitM)) 47) (fun a ha => units_one [(⟨(p0 : Int), (p0 : Int) + (p1 : Int), (p2 : Int), (p3 : Int), 1 + (p4 : Int), 1 + (p5 : Int), 1 + (p6 : Int)⟩ : UnitM)] a (by simpa using ha)) (by unfold maxLen; omega) (by omega) (by simp; omega) ?_; intro v' w2 hown' hgrow _; refine Still.go ?_)
            unfold Still
            have HO9 : Hid (w2.ownsRow w.heap.size 47 7 v' (i + 1) ((us ++ [(⟨(p0 : Int), (p0 : Int) + (p1 : Int), (p2 : Int), (p3 : Int), 1 + (p4 : Int), 1 + (p5 : Int), 1 + (p6 : Int)⟩ : UnitM)]).flatMap UnitM.cells)) := by
              show World.ownsRow _ _ _ _ _ _ _
              rw [List.flatMap_append, List.flatMap_singleton]
              exact hown'
            have HB9 : Hid (Below w.heap.size w w2) := below_app (HBE.out.trans (HB8.out.mono HBE.out.size)) HO8.out (Nat.le_refl _) hsz hgrow
            have HU9 : Hid ((us ++ [(⟨(p0 : Int), (p0 : Int) + (p1 : Int), (p2 : Int), (p3 : Int), 1 + (p4 : Int), 1 + (p5 : Int), 1 + (p6 : Int)⟩ : UnitM)]).length = i + 1) := by show _ = _; rw [List.length_append, HUL.out]; rfl
            have HM9 : Hid (MayUs (us ++ [(⟨(p0 : Int), (p0 : Int) + (p1 : Int), (p2 : Int), (p3 : Int), 1 + (p4 : Int), 1 + (p5 : Int), 1 + (p6 : Int)⟩ : UnitM)])) := mayUs_snoc HMU.out (mayU_made hp0 hp1 hp2 hp3 hp4 hp5 hp6 (by omega))
            clear hown' hgrow r0 r1 r2 r3 r4 r5 r6 HO8
            go_wp2
            go_roundw
            case rel => exact ⟨i + 1, _, by go_num, by show _ ≤ _; omega, by show _ ≤ _; omega, HU9, HM9, HO9, HB9⟩
            case measure => simp [intOf]; omega
      · have HE : Hid (UnitsAt wr u3 us) := by have := rowAt_of_own HOWN.out; rw [← HUL.out] at this; exact this
        have hul4 : Hid (us.length ≤ 4) := by show _ ≤ _; rw [HUL.out]; exact hi4
        have hie : decide ((i : Int) < 4) = false := decide_eq_false (by omega)
        go_wp2
        go_ret
        exact ⟨us, _, rfl, HE.out, HMU.out, hul4.out, HBE.out⟩
    · have HE : Hid (UnitsAt wr u3 us) := by have := rowAt_of_own HOWN.out; rw [← HUL.out] at this; exact this
      have hul4 : Hid (us.length ≤ 4) := by show _ ≤ _; rw [HUL.out]; exact hi4
      have hie : decide ((i : Int) < (raw.length : Int)) = false := decide_eq_false (by omega)
      go_wp2
      go_ret
      exact ⟨us, _, rfl, HE.out, HMU.out, hul4.out, HBE.out⟩
end Go.Proofs.Ytlbeecjkfakkpag
