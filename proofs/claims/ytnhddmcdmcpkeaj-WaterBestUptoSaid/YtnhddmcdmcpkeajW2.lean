/- mayBe, mayCome, sized. -/
import Derived.Test.YtnhddmcdmcpkeajW1
namespace Go.Proofs.Ytnhddmcdmcpkeaj
open Go.RowKit Go.Shelf

def lakeB (k : LakeM) : Bool := withinB k.least 0 k.start && withinB k.most k.start 20 && withinB k.turb 0 4 && withinB k.worth 0 1000
structure LakeOk (k : LakeM) : Prop where
  l : 0 ≤ k.least
  s : k.least ≤ k.start
  m : k.start ≤ k.most
  x : k.most ≤ 20
  t : 0 ≤ k.turb ∧ k.turb ≤ 4
  w : 0 ≤ k.worth ∧ k.worth ≤ 1000
theorem lakeB_iff {k : LakeM} : lakeB k = true ↔ LakeOk k := by
  unfold lakeB withinB
  simp only [Bool.and_eq_true, decide_eq_true_eq]
  constructor
  · rintro ⟨⟨⟨h1, h2⟩, h3⟩, h4⟩; exact ⟨h1.1, h1.2, h2.1, h2.2, h3, h4⟩
  · intro h; exact ⟨⟨⟨⟨h.l, h.s⟩, h.m, h.x⟩, h.t⟩, h.w⟩
set_option maxRecDepth 100000 in
set_option maxHeartbeats 2000000 in
theorem mayBe_any (k : LakeM) (w : World) : Calls Try.prog 38 #[.agg #[.int .i64 k.least, .int .i64 k.most, .int .i64 k.start, .int .i64 k.turb, .int .i64 k.worth]] w fun e w' => e = .returned (.bool (lakeB k)) ∧ Below w.heap.size w w' := by
  obtain ⟨a, b, c, d, g⟩ := k
  have HW : Hid (∀ x a b W, Calls Try.prog 58 #[.int .i64 x, .int .i64 a, .int .i64 b] W fun e w' => e = .returned (.bool (withinB x a b)) ∧ w' = W) := within_any
  have HWW := hide' (worth_any g)
  have HE : Hid (∀ q, q = lakeB ⟨a, b, c, d, g⟩ → q = (withinB a 0 c && withinB b c 20 && withinB d 0 4 && withinB g 0 1000)) := fun q h => h
  obtain ⟨Z, hZ⟩ : ∃ x, x = lakeB ⟨a, b, c, d, g⟩ := ⟨_, rfl⟩
  have HZ := hide' (HE.out Z hZ)
  rw [← hZ]
  clear hZ HE
  go_enter Try.func38, Try.ntmps38
  go_upto_region 1 with fail
  have HB := hide' (below_al w (.cells #[.int .i64 a, .int .i64 b, .int .i64 c, .int .i64 d, .int .i64 g] 71))
  have hq := alloc_new w (.cells #[.int .i64 a, .int .i64 b, .int .i64 c, .int .i64 d, .int .i64 g] 71)
  obtain ⟨w1, hw1⟩ : ∃ x, x = w.alloc (.cells #[.int .i64 a, .int .i64 b, .int .i64 c, .int .i64 d, .int .i64 g] 71) := ⟨_, rfl⟩
  rw [← hw1] at HB hq ⊢
  have y0 : w1.cell? ⟨w.heap.size, 0, none⟩ = some (.int .i64 a) := (cells_at hq 0).trans rfl
  have y1 : w1.cell? ⟨w.heap.size, 1, none⟩ = some (.int .i64 b) := (cells_at hq 1).trans rfl
  have y2 : w1.cell? ⟨w.heap.size, 2, none⟩ = some (.int .i64 c) := (cells_at hq 2).trans rfl
  have y3 : w1.cell? ⟨w.heap.size, 3, none⟩ = some (.int .i64 d) := (cells_at hq 3).trans rfl
  have y4 : w1.cell? ⟨w.heap.size, 4, none⟩ = some (.int .i64 g) := (cells_at hq 4).trans rfl
  clear hq hw1
  go_wp2_with fail
  refine (HW.out a 0 c w1).mono ?_
  rintro e z ⟨rfl, hz⟩
  obtain rfl := hz.symm
  obtain ⟨q1, hq1⟩ : ∃ x, x = withinB a 0 c := ⟨_, rfl⟩
  rw [← hq1] at HZ ⊢
  clear hq1
  cases q1 with
  | false =>
    go_wp2
    go_ret
    exact ⟨by rw [HZ.out]; rfl, HB.out⟩
  | true =>
    go_wp2_with fail
    refine (HW.out b c 20 w1).mono ?_
    rintro e z ⟨rfl, hz⟩
    obtain rfl := hz.symm
    obtain ⟨q2, hq2⟩ : ∃ x, x = withinB b c 20 := ⟨_, rfl⟩
    rw [← hq2] at HZ ⊢
    clear hq2
    cases q2 with
    | false =>
      go_wp2
      go_ret
      exact ⟨by rw [HZ.out]; rfl, HB.out⟩
    | true =>
      go_wp2_with fail
      refine (HW.out d 0 4 w1).mono ?_
      rintro e z ⟨rfl, hz⟩
      obtain rfl := hz.symm
      obtain ⟨q3, hq3⟩ : ∃ x, x = withinB d 0 4 := ⟨_, rfl⟩
      rw [← hq3] at HZ ⊢
      clear hq3
      cases q3 with
      | false =>
        go_wp2
        go_ret
        exact ⟨by rw [HZ.out]; rfl, HB.out⟩
      | true =>
        go_wp2_with fail
        refine (HWW.out w1).mono ?_
        rintro e z ⟨rfl, hz⟩
        obtain rfl := hz.symm
        go_wp2
        go_ret
        exact ⟨by rw [HZ.out]; rfl, HB.out⟩
theorem lake_len (k : LakeM) : k.cells.length = 5 := rfl
set_option maxRecDepth 100000 in
set_option maxHeartbeats 2000000 in
theorem allLake_any (l : List LakeM) (v : Value) (w : World) (hx : RowAt w v l.length 5 (l.flatMap LakeM.cells)) (hn : l.length ≤ 9000000000000000000) :
    Calls Try.prog 37 #[v, .func (.func 38) #[] #[]] w fun e w' => e = .returned (.bool (l.all lakeB)) ∧ Below w.heap.size w w' := by
  have HX := hide' hx
  have HF : Hid (∀ k W, Calls Try.prog 38 #[.agg #[.int .i64 k.least, .int .i64 k.most, .int .i64 k.start, .int .i64 k.turb, .int .i64 k.worth]] W fun e w' => e = .returned (.bool (lakeB k)) ∧ Below W.heap.size W w') := mayBe_any
  obtain ⟨ag, cg, rfl⟩ := rowAt_slice hx
  clear hx
  go_enter Try.func37, Try.ntmps37
  go_wp2_with fail
  go_loopw [9] (fun i wr => ∃ (k : Nat), i = .int .i64 k ∧ k ≤ l.length ∧ Hid (∀ j (hj : j < l.length), j < k → lakeB l[j] = true) ∧ Hid (Below w.heap.size w wr)) (fun i _ => l.length - (intOf i).toNat)
  case atStart => exact ⟨0, rfl, Nat.zero_le _, fun j _ h => absurd h (Nat.not_lt_zero j), Below.refl _ w⟩
  case round =>
    obtain ⟨k, rfl, hk, HOK, HBE⟩ := hrel
    by_cases hlt : k < l.length
    · obtain ⟨bt, ot, ct', ex, _, hct⟩ := row_elem lake_len HX.out k hlt (by decide)
      cases ex
      have HNX := hide' (all_next (p := lakeB) hlt HOK.out)
      have HNO := hide' (all_no (p := lakeB) hlt)
      have c0 : wr.cell? ⟨bt, ot + k * 5, none⟩ = some (.int .i64 (l[k]).least) := up_cell HBE.out (hct 0 _ rfl)
      have c1 : wr.cell? ⟨bt, ot + k * 5 + 1, none⟩ = some (.int .i64 (l[k]).most) := up_cell HBE.out (hct 1 _ rfl)
      have c2 : wr.cell? ⟨bt, ot + k * 5 + 2, none⟩ = some (.int .i64 (l[k]).start) := up_cell HBE.out (hct 2 _ rfl)
      have c3 : wr.cell? ⟨bt, ot + k * 5 + 3, none⟩ = some (.int .i64 (l[k]).turb) := up_cell HBE.out (hct 3 _ rfl)
      have c4 : wr.cell? ⟨bt, ot + k * 5 + 4, none⟩ = some (.int .i64 (l[k]).worth) := up_cell HBE.out (hct 4 _ rfl)
      obtain ⟨x, hx⟩ : ∃ x, x = l[k] := ⟨_, rfl⟩
      rw [← hx] at c0 c1 c2 c3 c4 HNX HNO
      have HC := hide' (HF.out x)
      obtain ⟨q, hq⟩ : ∃ b, b = lakeB x := ⟨_, rfl⟩
      rw [← hq] at HC HNX HNO
      obtain ⟨x0, x1, x2, x3, x4⟩ := x
      simp only at c0 c1 c2 c3 c4
      clear hx hct hq
      go_wp2_with fail
      refine (HC.out _).mono ?_
      rintro e w1 ⟨rfl, hb1⟩
      have HB1 : Hid (Below w.heap.size w w1) := (HBE.out.trans ((below_al wr _).mono HBE.out.size)).trans (hb1.mono (Nat.le_trans HBE.out.size (below_al wr _).size))
      clear hb1 HBE
      cases q with
      | true =>
        have HY := hide' (HNX.out rfl)
        go_wp2
        go_roundw
        case rel => exact ⟨k + 1, by go_num, by omega, HY.out, HB1⟩
        case measure => simp [intOf]; omega
      | false =>
        have HZ := hide' (HNO.out rfl)
        go_wp2
        go_ret
        exact ⟨by rw [HZ.out]; rfl, HB1.out⟩
    · have HY := hide' (all_yes (p := lakeB) (by omega) HOK.out)
      go_wp2
      go_ret
      exact ⟨by rw [HY.out]; rfl, HBE.out⟩
theorem cf21 (args : Array Value) (W : World) : (callFunc 56 args).run Try.prog W = .ok (.enter 56 args) W := by
  go_simp
theorem cf25 (args : Array Value) (W : World) : (callFunc 60 args).run Try.prog W = .ok (.enter 60 args) W := by
  go_simp
def comeB (t : List (List Int)) : Bool := t.all fun l => l.all fun x => withinB x 0 10
theorem come_row (l : List Int) (v : Value) (F : Nat) (w : World) (hx : RowAt w v l.length 1 (ints l)) (hn : l.length ≤ 9000000000000000000) (hF : w.cell? ⟨F, 0, none⟩ = some (.func (.func 59) #[] #[])) : Calls Try.prog 60 #[v, .pointer (some ⟨F, 0, none⟩)] w fun e w' => e = .returned (.bool (l.all fun x => withinB x 0 10)) ∧ w' = w := by
  have HA := hide' (allInt_any (fun x => withinB x 0 10) 59 cf24 l v w hx hn come_one)
  go_enter Try.func60, Try.ntmps60
  go_wp2_with fail
  refine HA.out.mono ?_
  rintro e w1 ⟨rfl, hw1⟩
  obtain rfl := hw1.symm
  go_wp2
  go_ret
  exact ⟨rfl, rfl⟩
set_option maxRecDepth 100000 in
theorem mayCome_any (t : List (List Int)) (v : Value) (w : World) (hx : TabAt w v t) (hn : t.length ≤ 9000000000000000000) (hl : ∀ l ∈ t, l.length ≤ 9000000000000000000) : Calls Try.prog 39 #[v] w fun e w' => e = .returned (.bool (comeB t)) ∧ Below w.heap.size w w' := by
  have HX := hide' hx
  have HL := hide' hl
  clear hx hl
  go_enter Try.func39, Try.ntmps39
  go_upto_region 2 with fail
  have hq := alloc_new w (.cells #[.func (.func 59) #[] #[]] 84)
  have hb := below_al w (.cells #[.func (.func 59) #[] #[]] 84)
  obtain ⟨w1, hw1⟩ : ∃ x, x = w.alloc (.cells #[.func (.func 59) #[] #[]] 84) := ⟨_, rfl⟩
  rw [← hw1] at hq hb ⊢
  have hF : w1.cell? ⟨w.heap.size, 0, none⟩ = some (.func (.func 59) #[] #[]) := (cells_at hq 0).trans rfl
  have HA : Hid (Calls Try.prog 57 #[v, .func (.func 60) #[] #[.pointer (some ⟨w.heap.size, 0, none⟩)]] w1 fun e w' => e = .returned (.bool (comeB t)) ∧ w' = w1) := by
    refine allRow_any _ 60 w.heap.size cf25 t v w1 (HX.out.below hb (Nat.le_refl _)) hn fun l x hm hr => ?_
    exact come_row l x w.heap.size w1 hr (HL.out l hm) hF
  have HB := hide' hb
  clear hq hb hF hw1
  go_wp2_with fail
  refine HA.out.mono ?_
  rintro e w2 ⟨rfl, hw2⟩
  obtain rfl := hw2.symm
  go_wp2
  go_ret
  exact ⟨rfl, HB.out⟩
theorem tells_any (L : Nat) (a : Option Addr) (c : Nat) (v : Value) (l : List Int) (F : Nat) (w : World) (hx : RowAt w v l.length 1 (ints l)) (hF : w.cell? ⟨F, 0, none⟩ = some (.slice a L c)) : Calls Try.prog 56 #[v, .pointer (some ⟨F, 0, none⟩)] w fun e w' => e = .returned (.bool (decide (l.length = L))) ∧ w' = w := by
  obtain ⟨ag, cg, rfl⟩ := rowAt_slice hx
  clear hx
  go_enter Try.func56, Try.ntmps56
  go_wp2
  all_goals
    go_ret
    exact ⟨ret_bool (by rw [Bool.eq_iff_iff]; simp; try omega), rfl⟩
def sizedB (L : Nat) (t : List (List Int)) : Bool := decide (L ≤ 2) && decide (t.length ≤ 8) && t.all fun l => decide (l.length = L)
set_option maxRecDepth 100000 in
theorem sized_any (L : Nat) (a : Option Addr) (c : Nat) (t : List (List Int)) (v : Value) (w : World) (hx : TabAt w v t) (hn : t.length ≤ 9000000000000000000) (hL : L ≤ 9000000000000000000) : Calls Try.prog 36 #[.slice a L c, v] w fun e w' => e = .returned (.bool (sizedB L t)) ∧ Below w.heap.size w w' := by
  have HX := hide' hx
  obtain ⟨av, cv, rfl⟩ := hx.slice
  have HE : Hid (sizedB L t = (decide (L ≤ 2) && decide (t.length ≤ 8) && t.all fun l => decide (l.length = L))) := rfl
  obtain ⟨Z, hZ⟩ : ∃ x, x = sizedB L t := ⟨_, rfl⟩
  rw [← hZ] at HE ⊢
  clear hx hZ
  go_enter Try.func36, Try.ntmps36
  go_upto_region 1 with fail
  have hq := alloc_new w (.cells #[.slice a L c] 50)
  have hb := below_al w (.cells #[.slice a L c] 50)
  obtain ⟨w1, hw1⟩ : ∃ x, x = w.alloc (.cells #[.slice a L c] 50) := ⟨_, rfl⟩
  rw [← hw1] at hq hb ⊢
  have hF : w1.cell? ⟨w.heap.size, 0, none⟩ = some (.slice a L c) := (cells_at hq 0).trans rfl
  have HA : Hid (Calls Try.prog 57 #[.slice av t.length cv, .func (.func 56) #[] #[.pointer (some ⟨w.heap.size, 0, none⟩)]] w1 fun e w' => e = .returned (.bool (t.all fun l => decide (l.length = L))) ∧ w' = w1) :=
    allRow_any _ 56 w.heap.size cf21 t _ w1 (HX.out.below hb (Nat.le_refl _)) hn fun l x _ hr => tells_any L a c x l w.heap.size w1 hr hF
  have HB := hide' hb
  clear hq hb hw1
  by_cases h2 : (L : Int) ≤ 2
  · by_cases h8 : (t.length : Int) ≤ 8
    · have HZ : Hid (Z = t.all fun l => decide (l.length = L)) := by rw [HE.out, decide_eq_true (show L ≤ 2 by omega), decide_eq_true (show t.length ≤ 8 by omega)]; rfl
      clear HE
      go_wp2_with fail
      refine HA.out.mono ?_
      rintro e w2 ⟨rfl, hw2⟩
      obtain rfl := hw2.symm
      go_wp2
      go_ret
      exact ⟨by rw [HZ.out]; rfl, HB.out⟩
    · have HZ : Hid (Z = false) := by rw [HE.out, decide_eq_true (show L ≤ 2 by omega), decide_eq_false (show ¬ t.length ≤ 8 by omega)]; rfl
      clear HE
      go_wp2
      go_ret
      exact ⟨by rw [HZ.out]; rfl, HB.out⟩
  · have HZ : Hid (Z = false) := by rw [HE.out, decide_eq_false (show ¬ L ≤ 2 by omega)]; rfl
    clear HE
    go_wp2
    go_ret
    exact ⟨by rw [HZ.out]; rfl, HB.out⟩
end Go.Proofs.Ytnhddmcdmcpkeaj
