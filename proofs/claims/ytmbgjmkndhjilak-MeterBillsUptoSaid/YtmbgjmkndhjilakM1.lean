/- Bands: within, mayBe, all, below, eachTwo. -/
import Derived.Test.YtmbgjmkndhjilakYt
import Derived.Test.YtmbgjmkndhjilakYv
namespace Go.Proofs.Ytmbgjmkndhjilak.Mtr
open Go.RowKit Go.Shelf

structure BandM where
  to_ : Int
  tenths : Int
def BandM.cells (d : BandM) : List Value := [.int .i64 d.to_, .int .i64 d.tenths]
theorem band_len (k : BandM) : k.cells.length = 2 := rfl
def withinB (x a b : Int) : Bool := decide (a ≤ x) && decide (x ≤ b)
theorem withinB_iff {x a b : Int} : withinB x a b = true ↔ a ≤ x ∧ x ≤ b := by simp [withinB]
theorem within_any (x a b : Int) (w : World) : Calls Try.prog 35 #[.int .i64 x, .int .i64 a, .int .i64 b] w fun e w' => e = .returned (.bool (withinB x a b)) ∧ w' = w := by
  go_enter Try.func35, Try.ntmps35
  go_wp2
  all_goals
    go_ret
    exact ⟨ret_bool (by unfold withinB; simp_all <;> omega), rfl⟩
theorem inBounds_any (x a b : Int) (w : World) : Calls Try.prog 33 #[.int .i64 x, .int .i64 a, .int .i64 b] w fun e w' => e = .returned (.bool (withinB x a b)) ∧ w' = w := by
  go_enter Try.func33, Try.ntmps33
  go_wp2
  all_goals
    go_ret
    exact ⟨ret_bool (by unfold withinB; simp_all <;> omega), rfl⟩
theorem all_next {α : Type} {l : List α} {p : α → Bool} {k : Nat} (hk : k < l.length) (h : ∀ j (hj : j < l.length), j < k → p l[j] = true) (hp : p l[k] = true) : ∀ j (hj : j < l.length), j < k + 1 → p l[j] = true := fun j hj hjk => by
  by_cases e : j = k
  · subst e; exact hp
  · exact h j hj (by omega)
theorem all_no {α : Type} {l : List α} {p : α → Bool} {k : Nat} (hk : k < l.length) (hp : p l[k] = false) : l.all p = false := List.all_eq_false.2 ⟨_, List.getElem_mem hk, by rw [hp]; decide⟩
theorem all_yes {α : Type} {l : List α} {p : α → Bool} {k : Nat} (hk : l.length ≤ k) (h : ∀ j (hj : j < l.length), j < k → p l[j] = true) : l.all p = true := List.all_eq_true.2 fun x hx => by
  obtain ⟨j, hj, rfl⟩ := List.mem_iff_getElem.1 hx
  exact h j hj (by omega)
def bandB (k : BandM) : Bool := withinB k.tenths 0 100000 && withinB k.to_ 1 4294967295
set_option maxRecDepth 100000 in
set_option maxHeartbeats 2000000 in
theorem mayBe_any (k : BandM) (w : World) : Calls Try.prog 37 #[.agg #[.int .i64 k.to_, .int .i64 k.tenths]] w fun e w' => e = .returned (.bool (bandB k)) ∧ Below w.heap.size w w' := by
  obtain ⟨a, b⟩ := k
  have HW : Hid (∀ x a b W, Calls Try.prog 35 #[.int .i64 x, .int .i64 a, .int .i64 b] W fun e w' => e = .returned (.bool (withinB x a b)) ∧ w' = W) := within_any
  have HE : Hid (∀ q, q = bandB ⟨a, b⟩ → q = (withinB b 0 100000 && withinB a 1 4294967295)) := fun q h => h
  obtain ⟨Z, hZ⟩ : ∃ x, x = bandB ⟨a, b⟩ := ⟨_, rfl⟩
  have HZ := hide' (HE.out Z hZ)
  rw [← hZ]
  clear hZ HE
  go_enter Try.func37, Try.ntmps37
  go_upto_region 1 with fail
  have HB := hide' (below_al w (.cells #[.int .i64 a, .int .i64 b] 75))
  have hq := alloc_new w (.cells #[.int .i64 a, .int .i64 b] 75)
  obtain ⟨w1, hw1⟩ : ∃ x, x = w.alloc (.cells #[.int .i64 a, .int .i64 b] 75) := ⟨_, rfl⟩
  rw [← hw1] at HB hq ⊢
  have y0 : w1.cell? ⟨w.heap.size, 0, none⟩ = some (.int .i64 a) := (cells_at hq 0).trans rfl
  have y1 : w1.cell? ⟨w.heap.size, 1, none⟩ = some (.int .i64 b) := (cells_at hq 1).trans rfl
  clear hq hw1
  go_wp2_with fail
  refine (HW.out b 0 100000 w1).mono ?_
  rintro e z ⟨rfl, hz⟩
  obtain rfl := hz.symm
  obtain ⟨q1, hq1⟩ : ∃ x, x = withinB b 0 100000 := ⟨_, rfl⟩
  rw [← hq1] at HZ ⊢
  clear hq1
  cases q1 with
  | false =>
    go_wp2
    go_ret
    exact ⟨by rw [HZ.out]; rfl, HB.out⟩
  | true =>
    go_wp2_with fail
    refine (HW.out a 1 4294967295 w1).mono ?_
    rintro e z ⟨rfl, hz⟩
    obtain rfl := hz.symm
    go_wp2
    go_ret
    exact ⟨by rw [HZ.out]; rfl, HB.out⟩
set_option maxRecDepth 100000 in
set_option maxHeartbeats 2000000 in
theorem allBand_any (l : List BandM) (v : Value) (w : World) (hx : RowAt w v l.length 2 (l.flatMap BandM.cells)) (hn : l.length ≤ 9000000000000000000) :
    Calls Try.prog 36 #[v, .func (.func 37) #[] #[]] w fun e w' => e = .returned (.bool (l.all bandB)) ∧ Below w.heap.size w w' := by
  have HX := hide' hx
  have HF : Hid (∀ k W, Calls Try.prog 37 #[.agg #[.int .i64 k.to_, .int .i64 k.tenths]] W fun e w' => e = .returned (.bool (bandB k)) ∧ Below W.heap.size W w') := mayBe_any
  obtain ⟨ag, cg, rfl⟩ := rowAt_slice hx
  clear hx
  go_enter Try.func36, Try.ntmps36
  go_wp2_with fail
  go_loopw [9] (fun i wr => ∃ (k : Nat), i = .int .i64 k ∧ k ≤ l.length ∧ Hid (∀ j (hj : j < l.length), j < k → bandB l[j] = true) ∧ Hid (Below w.heap.size w wr)) (fun i _ => l.length - (intOf i).toNat)
  case atStart => exact ⟨0, rfl, Nat.zero_le _, fun j _ h => absurd h (Nat.not_lt_zero j), Below.refl _ w⟩
  case round =>
    obtain ⟨k, rfl, hk, HOK, HBE⟩ := hrel
    by_cases hlt : k < l.length
    · obtain ⟨bt, ot, ct', ex, _, hct⟩ := row_elem band_len HX.out k hlt (by decide)
      cases ex
      have HNX := hide' (all_next (p := bandB) hlt HOK.out)
      have HNO := hide' (all_no (p := bandB) hlt)
      have c0 : wr.cell? ⟨bt, ot + k * 2, none⟩ = some (.int .i64 (l[k]).to_) := up_cell HBE.out (hct 0 _ rfl)
      have c1 : wr.cell? ⟨bt, ot + k * 2 + 1, none⟩ = some (.int .i64 (l[k]).tenths) := up_cell HBE.out (hct 1 _ rfl)
      obtain ⟨x, hx⟩ : ∃ x, x = l[k] := ⟨_, rfl⟩
      rw [← hx] at c0 c1 HNX HNO
      have HC := hide' (HF.out x)
      obtain ⟨q, hq⟩ : ∃ b, b = bandB x := ⟨_, rfl⟩
      rw [← hq] at HC HNX HNO
      obtain ⟨x0, x1⟩ := x
      simp only at c0 c1
      clear hx hct hq
      go_wp2_with fail
      refine (HC.out _).mono ?_
      rintro e w1 ⟨rfl, hb1⟩
      have HB1 : Hid (Below w.heap.size w w1) := (HBE.out.trans ((below_al wr _).mono HBE.out.size)).trans (hb1.mono (Nat.le_trans HBE.out.size (below_al wr _).size))
      clear hb1 HBE
      cases q with
      | true =>
        have HY := hide' (HNX.out rfl)
        go_wp2
        go_roundw
        case rel => exact ⟨k + 1, by go_num, by omega, HY.out, HB1⟩
        case measure => simp [intOf]; omega
      | false =>
        have HZ := hide' (HNO.out rfl)
        go_wp2
        go_ret
        exact ⟨by rw [HZ.out]; rfl, HB1.out⟩
    · have HY := hide' (all_yes (p := bandB) (by omega) HOK.out)
      go_wp2
      go_ret
      exact ⟨by rw [HY.out]; rfl, HBE.out⟩
theorem below_any (a b : BandM) (w : World) : Calls Try.prog 39 #[.agg #[.int .i64 a.to_, .int .i64 a.tenths], .agg #[.int .i64 b.to_, .int .i64 b.tenths]] w fun e w' => e = .returned (.bool (decide (a.to_ < b.to_))) ∧ Below w.heap.size w w' := by
  obtain ⟨a0, a1⟩ := a
  obtain ⟨b0, b1⟩ := b
  go_enter Try.func39, Try.ntmps39
  go_wp2
  go_ret
  exact ⟨rfl, (below_al w _).trans ((below_al _ _).mono (below_al w _).size)⟩
/-- Does it hold of each two that stand side by side? -/
def eachB {α : Type} (p : α → α → Bool) : List α → Bool
  | a :: b :: r => p a b && eachB p (b :: r)
  | _ => true
theorem each_yes {α : Type} {p : α → α → Bool} : ∀ (l : List α), (∀ j (h : j + 1 < l.length), p l[j] l[j + 1] = true) → eachB p l = true
  | [], _ => rfl
  | [_], _ => rfl
  | a :: b :: r, h => by
    rw [eachB, Bool.and_eq_true]
    exact ⟨h 0 (by simp), each_yes (b :: r) fun j hj => h (j + 1) (by simpa using hj)⟩
theorem each_get {α : Type} {p : α → α → Bool} : ∀ (l : List α), eachB p l = true → ∀ j (h : j + 1 < l.length), p l[j] l[j + 1] = true
  | [], _, _, h => by simp at h
  | [_], _, _, h => by simp at h
  | a :: b :: r, h, j, hj => by
    rw [eachB, Bool.and_eq_true] at h
    cases j with
    | zero => exact h.1
    | succ j => exact each_get (b :: r) h.2 j (by simpa using hj)
theorem each_no {α : Type} {p : α → α → Bool} {l : List α} {j : Nat} (h : j + 1 < l.length) (hp : p l[j] l[j + 1] = false) : eachB p l = false := by
  cases he : eachB p l with
  | false => rfl
  | true => rw [each_get l he j h] at hp; cases hp
end Go.Proofs.Ytmbgjmkndhjilak.Mtr
