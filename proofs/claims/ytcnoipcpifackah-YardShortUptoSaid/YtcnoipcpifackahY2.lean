/- Whether a yard may be, in the program. -/
import Derived.Test.YtcnoipcpifackahYb
namespace Go.Proofs.Ytcnoipcpifackah
open Go.RowKit Go.Shelf

def thereB (n x : Int) : Bool := decide (0 ≤ x) && decide (x < n)
def risB (n : Int) (l : List Int) (i : Nat) : Bool := thereB n (l.getD i 0) && (decide (i = 0) || decide (l.getD (i - 1) 0 < l.getD i 0))
def risingB (n : Int) (l : List Int) : Bool := (List.range l.length).all (risB n l)
def devB (n : Int) (d : DevM) : Bool := if d.kind = 1 ∨ d.kind = 2 then thereB n d.a && thereB n d.b && !(d.a == d.b) else if d.kind = 3 then thereB n d.a && (d.b == 0) else false
def mayYB (y : YardM) : Bool := (decide (1 ≤ y.points) && decide (y.points ≤ 10) && decide (y.devs.length ≤ 10)) && (risingB y.points y.fed && (risingB y.points y.drawn && y.devs.all (devB y.points)))
theorem thereB_iff {n x : Int} : thereB n x = true ↔ 0 ≤ x ∧ x < n := by simp [thereB]
theorem risingB_iff {n : Int} {l : List Int} : risingB n l = true ↔ Rising n l := by
  unfold risingB Rising RisingTo
  rw [List.all_eq_true]
  constructor
  · intro h i x hi hx
    have h1 := h i (List.mem_range.2 hi)
    rw [risB, List.getD_eq_getElem?_getD, hx] at h1
    simp only [Option.getD_some, Bool.and_eq_true, Bool.or_eq_true, decide_eq_true_eq, thereB_iff] at h1
    refine ⟨h1.1.1, h1.1.2, fun y h0 hy => ?_⟩
    rw [List.getD_eq_getElem?_getD, hy] at h1
    rcases h1.2 with e | e
    · omega
    · exact e
  · intro h i hi
    have hi := List.mem_range.1 hi
    have h1 := h i l[i] hi (List.getElem?_eq_getElem hi)
    rw [risB, List.getD_eq_getElem?_getD, List.getElem?_eq_getElem hi]
    simp only [Option.getD_some, Bool.and_eq_true, Bool.or_eq_true, decide_eq_true_eq, thereB_iff]
    refine ⟨⟨h1.1, h1.2.1⟩, ?_⟩
    by_cases e : i = 0
    · exact .inl e
    · right
      rw [List.getD_eq_getElem?_getD, List.getElem?_eq_getElem (show i - 1 < l.length by omega)]
      exact h1.2.2 _ (by omega) (List.getElem?_eq_getElem (by omega))
theorem devB_iff {n : Int} {d : DevM} : devB n d = true ↔ DevOk n d := by
  unfold devB DevOk
  by_cases h : d.kind = 1 ∨ d.kind = 2
  · rw [if_pos h]
    simp only [Bool.and_eq_true, thereB_iff, Bool.not_eq_true', beq_eq_false_iff_ne]
    constructor
    · rintro ⟨⟨h1, h2⟩, h3⟩; exact .inl ⟨h, h1, h2, h3⟩
    · rintro (⟨_, h1, h2, h3⟩ | ⟨h1, _⟩)
      · exact ⟨⟨h1, h2⟩, h3⟩
      · omega
  · rw [if_neg h]
    by_cases h3 : d.kind = 3
    · rw [if_pos h3]
      simp only [Bool.and_eq_true, thereB_iff, beq_iff_eq]
      constructor
      · rintro ⟨h1, h2⟩; exact .inr ⟨h3, h1, h2⟩
      · rintro (⟨h1, _⟩ | ⟨_, h1, h2⟩)
        · exact absurd h1 h
        · exact ⟨h1, h2⟩
    · rw [if_neg h3]
      constructor
      · intro e; cases e
      · rintro (⟨h1, _⟩ | ⟨h1, _⟩)
        · exact absurd h1 h
        · exact absurd h1 h3
theorem mayYB_iff {y : YardM} : mayYB y = true ↔ MayY y := by
  unfold mayYB
  simp only [Bool.and_eq_true, decide_eq_true_eq, risingB_iff, List.all_eq_true, devB_iff]
  constructor
  · rintro ⟨⟨⟨h1, h2⟩, h3⟩, h4, h5, h6⟩; exact ⟨⟨h1, h2⟩, h3, h4, h5, h6⟩
  · rintro ⟨⟨h1, h2⟩, h3, h4, h5, h6⟩; exact ⟨⟨⟨h1, h2⟩, h3⟩, h4, h5, h6⟩
/-- A yard's lists lie there. -/
structure YardAt (w : World) (af ad as' : Option Addr) (cf cd cs : Nat) (y : YardM) : Prop where
  f : RowAt w (.slice af y.fed.length cf) y.fed.length 1 (ints y.fed)
  d : RowAt w (.slice ad y.drawn.length cd) y.drawn.length 1 (ints y.drawn)
  s : RowAt w (.slice as' y.devs.length cs) y.devs.length 4 (y.devs.flatMap DevM.cells)
theorem YardAt.below {w w' : World} {B : Nat} {af ad as' : Option Addr} {cf cd cs : Nat} {y : YardM} (h : YardAt w af ad as' cf cd cs y) (hb : Below B w w') (hs : w.heap.size ≤ B) : YardAt w' af ad as' cf cd cs y := ⟨h.f.below hb hs, h.d.below hb hs, h.s.below hb hs⟩
theorem there_any (x n : Int) (Y : Nat) (w : World) (hY : w.cell? ⟨Y, 0, none⟩ = some (.int .i64 n)) : Calls Try.prog 42 #[.int .i64 x, .pointer (some ⟨Y, 0, none⟩)] w fun e w' => e = .returned (.bool (thereB n x)) ∧ w' = w := by
  go_enter Try.func42, Try.ntmps42
  go_wp2
  all_goals
    go_ret
    exact ⟨ret_bool (by rw [Bool.eq_iff_iff, thereB_iff]; simp_all <;> omega), rfl⟩
set_option maxRecDepth 100000 in
set_option maxHeartbeats 2000000 in
theorem rising_any (n : Int) (l : List Int) (v : Value) (Y F : Nat) (w : World) (hx : RowAt w v l.length 1 (ints l)) (hY : w.cell? ⟨Y, 0, none⟩ = some (.int .i64 n)) (hF : w.cell? ⟨F, 0, none⟩ = some (.func (.func 42) #[] #[.pointer (some ⟨Y, 0, none⟩)])) (hn : l.length ≤ 9000000000000000000) : Calls Try.prog 43 #[v, .pointer (some ⟨F, 0, none⟩)] w fun e w' => e = .returned (.bool (risingB n l)) ∧ w' = w := by
  have HG := hide' hx
  have HC := hide' (fun x => there_any x n Y w hY)
  obtain ⟨ag, cg, rfl⟩ := rowAt_slice hx
  clear hx hY
  go_enter Try.func43, Try.ntmps43
  go_wp2_with fail
  go_loopw [8] (fun i wr => ∃ (k : Nat), i = .int .i64 k ∧ k ≤ l.length ∧ Hid (∀ j, j < k → risB n l j = true) ∧ wr = w) (fun i _ => l.length - (intOf i).toNat)
  case atStart => exact ⟨0, rfl, Nat.zero_le _, fun j h => absurd h (Nat.not_lt_zero j), rfl⟩
  case round =>
    obtain ⟨k, rfl, hk, HOK, rfl⟩ := hrel
    by_cases hlt : k < l.length
    · obtain ⟨bt, ot, ct', ex, hct⟩ := ints_cell HG.out k hlt
      cases ex
      have HBAD : Hid (risB n l k = false → risingB n l = false) := fun h => by
        rw [risingB, List.all_eq_false]
        exact ⟨k, List.mem_range.2 hlt, by rw [h]; decide⟩
      have HNEXT : Hid (risB n l k = true → ∀ j, j < k + 1 → risB n l j = true) := fun h j hj => by
        by_cases e : j = k
        · subst e; exact h
        · exact HOK.out j (by omega)
      have HR : Hid (risB n l k = (thereB n (l.getD k 0) && (decide (k = 0) || decide (l.getD (k - 1) 0 < l.getD k 0)))) := rfl
      have hprev : 0 < k → wr.cell? ⟨bt, ot + (k - 1), none⟩ = some (.int .i64 (l.getD (k - 1) 0)) := fun h0 => by
        obtain ⟨b2, o2, c2, ex2, hc2⟩ := ints_cell HG.out (k - 1) (by omega)
        simp only [Value.slice.injEq, Option.some.injEq, Addr.mk.injEq] at ex2
        obtain ⟨⟨e1, e2, _⟩, _⟩ := ex2
        rw [e1, e2]
        exact hc2
      obtain ⟨x, hx⟩ : ∃ x, x = l.getD k 0 := ⟨_, rfl⟩
      rw [← hx] at hct HR
      have HC1 := hide' (HC.out x)
      obtain ⟨mb, hmb⟩ : ∃ mb, mb = thereB n x := ⟨_, rfl⟩
      rw [← hmb] at HC1 HR
      clear hx hmb HOK
      go_wp2_with fail
      refine HC1.out.mono ?_
      rintro e w1 ⟨rfl, hw1⟩
      obtain rfl := hw1.symm
      clear HC1
      cases mb with
      | false =>
        have HNO := hide' (HBAD.out (by rw [HR.out]; rfl))
        go_wp2
        go_ret
        exact ⟨by rw [HNO.out]; rfl, rfl⟩
      | true =>
        by_cases h0 : 0 < k
        · have hp := hprev h0
          obtain ⟨z, hz⟩ : ∃ z, z = l.getD (k - 1) 0 := ⟨_, rfl⟩
          rw [← hz] at hp HR
          obtain ⟨k', rfl⟩ : ∃ k', k = k' + 1 := ⟨k - 1, by omega⟩
          simp only [Nat.add_sub_cancel] at hp
          clear hprev hz h0
          by_cases hlt2 : z < x
          · have HY := hide' (HNEXT.out (by rw [HR.out]; simp [hlt2]))
            go_wp2
            go_roundw
            case rel => exact ⟨k' + 1 + 1, by go_num, by omega, HY.out, trivial⟩
            case measure => simp [intOf]; omega
          · have HNO := hide' (HBAD.out (by rw [HR.out]; simp; omega))
            go_wp2
            go_ret
            exact ⟨by rw [HNO.out]; rfl, rfl⟩
        · have hk0 : k = 0 := by omega
          subst hk0
          have HY := hide' (HNEXT.out (by rw [HR.out]; rfl))
          clear hprev
          go_wp2
          go_roundw
          case rel => exact ⟨0 + 1, by go_num, by omega, HY.out, trivial⟩
          case measure => simp [intOf]; omega
    · have HALL : Hid (risingB n l = true) := by
        show _ = _
        rw [risingB, List.all_eq_true]
        exact fun j hj => HOK.out j (by have := List.mem_range.1 hj; omega)
      go_wp2
      go_ret
      exact ⟨by rw [HALL.out]; rfl, rfl⟩
set_option maxRecDepth 100000 in
set_option maxHeartbeats 2000000 in
theorem wrong_any (n : Int) (d : DevM) (Y F : Nat) (w : World) (hY : w.cell? ⟨Y, 0, none⟩ = some (.int .i64 n)) (hF : w.cell? ⟨F, 0, none⟩ = some (.func (.func 42) #[] #[.pointer (some ⟨Y, 0, none⟩)])) : Calls Try.prog 44 #[.agg #[.int .i64 d.kind, .int .i64 d.a, .int .i64 d.b, .bool d.shut], .pointer (some ⟨F, 0, none⟩)] w fun e w' => e = .returned (.bool (!devB n d)) ∧ Below w.heap.size w w' := by
  have HB : Hid (∀ o, Below w.heap.size w (w.alloc o)) := fun o => (Below.refl _ w).alloc (Nat.le_refl _) o
  have HY := hide' (later hY)
  have HC : Hid (∀ x o, Calls Try.prog 42 #[.int .i64 x, .pointer (some ⟨Y, 0, none⟩)] (w.alloc o) fun e w' => e = .returned (.bool (thereB n x)) ∧ w' = w.alloc o) := fun x o => there_any x n Y _ (HY.out o)
  have hF2 := later hF
  have HD : Hid (devB n d = if d.kind = 1 ∨ d.kind = 2 then thereB n d.a && thereB n d.b && !(d.a == d.b) else if d.kind = 3 then thereB n d.a && (d.b == 0) else false) := rfl
  obtain ⟨kd, a, b, sh⟩ := d
  obtain ⟨ta, hta⟩ : ∃ t, t = thereB n a := ⟨_, rfl⟩
  obtain ⟨tb, htb⟩ : ∃ t, t = thereB n b := ⟨_, rfl⟩
  have HCa := hide' (HC.out a)
  have HCb := hide' (HC.out b)
  dsimp only at HD ⊢
  rw [← hta] at HD HCa
  rw [← htb] at HD HCb
  clear hta htb hY hF HY HC
  go_enter Try.func44, Try.ntmps44
  by_cases h1 : kd = 1
  · subst h1
    go_wp2_with fail
    refine (HCa.out _).mono ?_
    rintro e w' ⟨rfl, hw⟩
    obtain rfl := hw.symm
    clear hw
    cases ta with
    | false =>
      go_wp2
      all_goals
        go_ret
        exact ⟨ret_bool (by rw [HD.out]; simp_all), HB.out _⟩
    | true =>
      go_wp2_with fail
      refine (HCb.out _).mono ?_
      rintro e w' ⟨rfl, hw⟩
      obtain rfl := hw.symm
      clear hw
      cases tb with
      | false =>
        go_wp2
        all_goals
          go_ret
          exact ⟨ret_bool (by rw [HD.out]; simp_all), HB.out _⟩
      | true =>
        by_cases hab : a = b
        · subst hab
          go_wp2
          all_goals
            go_ret
            exact ⟨ret_bool (by rw [HD.out]; simp_all), HB.out _⟩
        · have hab' : (a == b) = false := by simp [hab]
          go_wp2
          all_goals
            go_ret
            exact ⟨ret_bool (by rw [HD.out]; simp_all), HB.out _⟩
  by_cases h2 : kd = 2
  · subst h2
    go_wp2_with fail
    refine (HCa.out _).mono ?_
    rintro e w' ⟨rfl, hw⟩
    obtain rfl := hw.symm
    clear hw
    cases ta with
    | false =>
      go_wp2
      all_goals
        go_ret
        exact ⟨ret_bool (by rw [HD.out]; simp_all), HB.out _⟩
    | true =>
      go_wp2_with fail
      refine (HCb.out _).mono ?_
      rintro e w' ⟨rfl, hw⟩
      obtain rfl := hw.symm
      clear hw
      cases tb with
      | false =>
        go_wp2
        all_goals
          go_ret
          exact ⟨ret_bool (by rw [HD.out]; simp_all), HB.out _⟩
      | true =>
        by_cases hab : a = b
        · subst hab
          go_wp2
          all_goals
            go_ret
            exact ⟨ret_bool (by rw [HD.out]; simp_all), HB.out _⟩
        · have hab' : (a == b) = false := by simp [hab]
          go_wp2
          all_goals
            go_ret
            exact ⟨ret_bool (by rw [HD.out]; simp_all), HB.out _⟩
  by_cases h3 : kd = 3
  · subst h3
    go_wp2_with fail
    refine (HCa.out _).mono ?_
    rintro e w' ⟨rfl, hw⟩
    obtain rfl := hw.symm
    clear hw
    cases ta with
    | false =>
      go_wp2
      all_goals
        go_ret
        exact ⟨ret_bool (by rw [HD.out]; simp_all), HB.out _⟩
    | true =>
      by_cases hb : b = 0
      · subst hb
        go_wp2
        all_goals
          go_ret
          exact ⟨ret_bool (by rw [HD.out]; simp_all), HB.out _⟩
      · have hb' : (b == 0) = false := by simp [hb]
        go_wp2
        all_goals
          go_ret
          exact ⟨ret_bool (by rw [HD.out]; simp_all [bne]), HB.out _⟩
  · have k1 : (kd == 1) = false := by simp [h1]
    have k2 : (kd == 2) = false := by simp [h2]
    have k3 : (kd == 3) = false := by simp [h3]
    go_wp2
    all_goals
      go_ret
      exact ⟨ret_bool (by rw [HD.out]; simp_all), HB.out _⟩
set_option maxRecDepth 100000 in
set_option maxHeartbeats 2000000 in
theorem indexDev_any (n : Int) (ds : List DevM) (v : Value) (Y F : Nat) (w : World) (hx : RowAt w v ds.length 4 (ds.flatMap DevM.cells)) (hY : w.cell? ⟨Y, 0, none⟩ = some (.int .i64 n)) (hF : w.cell? ⟨F, 0, none⟩ = some (.func (.func 42) #[] #[.pointer (some ⟨Y, 0, none⟩)])) (hn : ds.length ≤ 1000) :
    Calls Try.prog 57 #[v, .func (.func 44) #[] #[.pointer (some ⟨F, 0, none⟩)]] w fun e w' => (∃ k : Int, e = .returned (.int .i64 k) ∧ decide (0 ≤ k) = !ds.all (devB n)) ∧ Below w.heap.size w w' := by
  have HG := hide' hx
  have HY := hide' hY
  have HF := hide' hF
  obtain ⟨ag, cg, rfl⟩ := rowAt_slice hx
  clear hx hY hF
  go_enter Try.func57, Try.ntmps57
  go_wp2_with fail
  go_loopw [8] (fun i wr => ∃ (k : Nat), i = .int .i64 k ∧ k ≤ ds.length ∧ Hid (∀ (j : Nat) (hj : j < ds.length), j < k → devB n ds[j] = true) ∧ Hid (Below w.heap.size w wr)) (fun i _ => ds.length - (intOf i).toNat)
  case atStart => exact ⟨0, rfl, Nat.zero_le _, fun j _ h => absurd h (Nat.not_lt_zero j), Below.refl _ w⟩
  case round =>
    obtain ⟨k, rfl, hk, HOK, HBE⟩ := hrel
    by_cases hlt : k < ds.length
    · obtain ⟨bt, ot, ct', ex, hbt, hct⟩ := row_elem (f := DevM.cells) (fun _ => rfl) HG.out k hlt (by decide)
      cases ex
      obtain ⟨u, hu⟩ : ∃ u, u = ds[k] := ⟨_, rfl⟩
      rw [← hu] at hct
      have HK : Hid (ds[k] = u) := hu.symm
      have up : ∀ (c j : Nat) (u : Value), w.cell? ⟨c, j, none⟩ = some u → wr.cell? ⟨c, j, none⟩ = some u := fun c j u h => (HBE.out.cell (World.block_lt_of_cell? w _ h)).trans h
      have d0 := up _ _ _ (hct 0 _ rfl)
      have d1 := up _ _ _ (hct 1 _ rfl)
      have d2 := up _ _ _ (hct 2 _ rfl)
      have d3 := up _ _ _ (hct 3 _ rfl)
      rw [Nat.add_zero] at d0
      have HC := hide' (wrong_any n u Y F wr (up _ _ _ HY.out) (up _ _ _ HF.out))
      have HNEXT : Hid (devB n u = true → ∀ (j : Nat) (hj : j < ds.length), j < k + 1 → devB n ds[j] = true) := fun h j hj hjk => by
        by_cases e : j = k
        · subst e; rw [HK.out]; exact h
        · exact HOK.out j hj (by omega)
      have HBAD : Hid (devB n u = false → ds.all (devB n) = false) := fun h => by
        rw [List.all_eq_false]
        exact ⟨ds[k], List.getElem_mem hlt, by rw [HK.out, h]; decide⟩
      obtain ⟨mb, hmb⟩ : ∃ mb, mb = devB n u := ⟨_, rfl⟩
      rw [← hmb] at HC HNEXT HBAD
      obtain ⟨x0, x1, x2, x3⟩ := u
      dsimp only at HC d0 d1 d2 d3
      clear hct hu up hbt HOK HK hmb
      go_wp2_with fail
      refine HC.out.mono ?_
      rintro e w1 ⟨rfl, hb1⟩
      have HB1 : Hid (Below w.heap.size w w1) := HBE.out.trans (hb1.mono HBE.out.size)
      clear hb1 d0 d1 d2 d3 HC HBE
      cases mb with
      | false =>
        have HNO := hide' (HBAD.out rfl)
        go_wp2
        go_ret
        exact ⟨⟨_, rfl, by rw [HNO.out]; simp⟩, HB1.out⟩
      | true =>
        have HY2 := hide' (HNEXT.out rfl)
        go_wp2
        go_roundw
        case rel => exact ⟨k + 1, by go_num, by omega, HY2.out, HB1.out⟩
        case measure => simp [intOf]; omega
    · have HALL : Hid (ds.all (devB n) = true) := by
        show _ = _
        rw [List.all_eq_true]
        intro x hx
        obtain ⟨i, hi, rfl⟩ := List.getElem_of_mem hx
        exact HOK.out i hi (by omega)
      go_wp2
      go_ret
      exact ⟨⟨_, rfl, by rw [HALL.out]; rfl⟩, HBE.out⟩
set_option maxRecDepth 100000 in
theorem containsDev_any (n : Int) (ds : List DevM) (v : Value) (Y F : Nat) (w : World) (hx : RowAt w v ds.length 4 (ds.flatMap DevM.cells)) (hY : w.cell? ⟨Y, 0, none⟩ = some (.int .i64 n)) (hF : w.cell? ⟨F, 0, none⟩ = some (.func (.func 42) #[] #[.pointer (some ⟨Y, 0, none⟩)])) (hn : ds.length ≤ 1000) :
    Calls Try.prog 45 #[v, .func (.func 44) #[] #[.pointer (some ⟨F, 0, none⟩)]] w fun e w' => e = .returned (.bool (!ds.all (devB n))) ∧ Below w.heap.size w w' := by
  have HC := hide' (indexDev_any n ds v Y F w hx hY hF hn)
  clear hx hY hF
  go_enter Try.func45, Try.ntmps45
  go_wp2_with fail
  refine HC.out.mono ?_
  rintro e w1 ⟨⟨k, rfl, hkk⟩, hb⟩
  have HK := hide' hkk
  have HB := hide' hb
  clear hkk hb HC
  by_cases h0 : 0 ≤ k
  · go_wp2
    go_ret
    exact ⟨by rw [← HK.out]; simp [h0], HB.out⟩
  · go_wp2
    go_ret
    exact ⟨by rw [← HK.out]; simp, HB.out⟩
end Go.Proofs.Ytcnoipcpifackah
