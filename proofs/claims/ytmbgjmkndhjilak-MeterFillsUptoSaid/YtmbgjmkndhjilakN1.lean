/- Rows of numbers: within, allTo, eachTwo, sized, inOrder. -/
import Derived.Test.YtmbgjmkndhjilakYt
import Derived.Test.YtmbgjmkndhjilakYv
namespace Go.Proofs.Ytmbgjmkndhjilak
open Go.RowKit Go.Shelf

def withinB (x a b : Int) : Bool := decide (a ≤ x) && decide (x ≤ b)
theorem withinB_iff {x a b : Int} : withinB x a b = true ↔ a ≤ x ∧ x ≤ b := by simp [withinB]
theorem within_any (x a b : Int) (w : World) : Calls Try.prog 35 #[.int .i64 x, .int .i64 a, .int .i64 b] w fun e w' => e = .returned (.bool (withinB x a b)) ∧ w' = w := by
  go_enter Try.func35, Try.ntmps35
  go_wp2
  all_goals
    go_ret
    exact ⟨ret_bool (by unfold withinB; simp_all <;> omega), rfl⟩
theorem all_next {α : Type} {l : List α} {p : α → Bool} {k : Nat} (hk : k < l.length) (h : ∀ j (hj : j < l.length), j < k → p l[j] = true) (hp : p l[k] = true) : ∀ j (hj : j < l.length), j < k + 1 → p l[j] = true := fun j hj hjk => by
  by_cases e : j = k
  · subst e; exact hp
  · exact h j hj (by omega)
theorem all_no {α : Type} {l : List α} {p : α → Bool} {k : Nat} (hk : k < l.length) (hp : p l[k] = false) : l.all p = false := List.all_eq_false.2 ⟨_, List.getElem_mem hk, by rw [hp]; decide⟩
theorem all_yes {α : Type} {l : List α} {p : α → Bool} {k : Nat} (hk : l.length ≤ k) (h : ∀ j (hj : j < l.length), j < k → p l[j] = true) : l.all p = true := List.all_eq_true.2 fun x hx => by
  obtain ⟨j, hj, rfl⟩ := List.mem_iff_getElem.1 hx
  exact h j hj (by omega)
/-- Does it hold of each two that stand side by side? -/
def eachB {α : Type} (p : α → α → Bool) : List α → Bool
  | a :: b :: r => p a b && eachB p (b :: r)
  | _ => true
theorem each_yes {α : Type} {p : α → α → Bool} : ∀ (l : List α), (∀ j (h : j + 1 < l.length), p l[j] l[j + 1] = true) → eachB p l = true
  | [], _ => rfl
  | [_], _ => rfl
  | a :: b :: r, h => by
    rw [eachB, Bool.and_eq_true]
    exact ⟨h 0 (by simp), each_yes (b :: r) fun j hj => h (j + 1) (by simpa using hj)⟩
theorem each_get {α : Type} {p : α → α → Bool} : ∀ (l : List α), eachB p l = true → ∀ j (h : j + 1 < l.length), p l[j] l[j + 1] = true
  | [], _, _, h => by simp at h
  | [_], _, _, h => by simp at h
  | a :: b :: r, h, j, hj => by
    rw [eachB, Bool.and_eq_true] at h
    cases j with
    | zero => exact h.1
    | succ j => exact each_get (b :: r) h.2 j (by simpa using hj)
theorem each_no {α : Type} {p : α → α → Bool} {l : List α} {j : Nat} (h : j + 1 < l.length) (hp : p l[j] l[j + 1] = false) : eachB p l = false := by
  cases he : eachB p l with
  | false => rfl
  | true => rw [each_get l he j h] at hp; cases hp
theorem each_next {α : Type} {p : α → α → Bool} {l : List α} {k : Nat} (hk : k + 1 < l.length) (h : ∀ j (hj : j + 1 < l.length), j + 1 < k + 1 → p l[j] l[j + 1] = true) (hp : p l[k] l[k + 1] = true) : ∀ j (hj : j + 1 < l.length), j + 1 < k + 1 + 1 → p l[j] l[j + 1] = true := fun j hj hjk => by
  by_cases e : j = k
  · subst e; exact hp
  · exact h j hj (by omega)

theorem getD_get {l : List Int} {k : Nat} (h : k < l.length) : l.getD k 0 = l[k] := by rw [List.getD_eq_getElem?_getD, List.getElem?_eq_getElem h]; rfl
theorem to_one (x m : Int) (F : Nat) (w : World) (hF : w.cell? ⟨F, 0, none⟩ = some (.int .i64 m)) : Calls Try.prog 56 #[.int .i64 x, .pointer (some ⟨F, 0, none⟩)] w fun e w' => e = .returned (.bool (withinB x 0 m)) ∧ w' = w := by
  have HW := hide' (within_any x 0 m w)
  go_enter Try.func56, Try.ntmps56
  go_wp2_with fail
  refine HW.out.mono ?_
  rintro e w1 ⟨rfl, hw1⟩
  obtain rfl := hw1.symm
  go_wp2
  go_ret
  exact ⟨rfl, rfl⟩
theorem cf12 (args : Array Value) (W : World) : (callFunc 56 args).run Try.prog W = .ok (.enter 56 args) W := by
  go_simp
set_option maxRecDepth 100000 in
set_option maxHeartbeats 2000000 in
theorem allInt_any (m : Int) (F : Nat) (l : List Int) (v : Value) (w : World) (hx : RowAt w v l.length 1 (ints l)) (hn : l.length ≤ 9000000000000000000) (hF : w.cell? ⟨F, 0, none⟩ = some (.int .i64 m)) :
    Calls Try.prog 55 #[v, .func (.func 56) #[] #[.pointer (some ⟨F, 0, none⟩)]] w fun e w' => e = .returned (.bool (l.all fun x => withinB x 0 m)) ∧ w' = w := by
  have HX := hide' hx
  have HF : Hid (∀ x, Calls Try.prog 56 #[.int .i64 x, .pointer (some ⟨F, 0, none⟩)] w fun e w' => e = .returned (.bool (withinB x 0 m)) ∧ w' = w) := fun x => to_one x m F w hF
  obtain ⟨ag, cg, rfl⟩ := rowAt_slice hx
  have hc := cf12
  clear hx hF
  go_enter Try.func55, Try.ntmps55
  go_wp2_with fail
  go_loopw [9] (fun i wr => ∃ (k : Nat), i = .int .i64 k ∧ k ≤ l.length ∧ Hid (∀ j (hj : j < l.length), j < k → (fun x => withinB x 0 m) l[j] = true) ∧ wr = w) (fun i _ => l.length - (intOf i).toNat)
  case atStart => exact ⟨0, rfl, Nat.zero_le _, fun j _ h => absurd h (Nat.not_lt_zero j), rfl⟩
  case round =>
    obtain ⟨k, rfl, hk, HOK, rfl⟩ := hrel
    by_cases hlt : k < l.length
    · obtain ⟨bt, ot, ct', ex, hct⟩ := ints_cell HX.out k hlt
      cases ex
      have HNX := hide' (all_next (p := fun x => withinB x 0 m) hlt HOK.out)
      have HNO := hide' (all_no (p := fun x => withinB x 0 m) hlt)
      rw [getD_get hlt] at hct
      have HC := hide' (HF.out l[k])
      obtain ⟨b, hb⟩ : ∃ b, b = withinB l[k] 0 m := ⟨_, rfl⟩
      rw [← hb] at HC HNX HNO
      obtain ⟨x, hx⟩ : ∃ x, x = l[k] := ⟨_, rfl⟩
      rw [← hx] at hct HC
      clear hx hb
      go_wp2_with fail
      refine HC.out.mono ?_
      rintro e w1 ⟨rfl, hw1⟩
      obtain rfl := hw1.symm
      cases b with
      | true =>
        have HY := hide' (HNX.out rfl)
        go_wp2
        go_roundw
        case rel => exact ⟨k + 1, by go_num, by omega, HY.out, trivial⟩
        case measure => simp [intOf]; omega
      | false =>
        have HZ := hide' (HNO.out rfl)
        go_wp2
        go_ret
        exact ⟨by rw [HZ.out]; rfl, rfl⟩
    · have HY := hide' (all_yes (p := fun x => withinB x 0 m) (by omega) HOK.out)
      go_wp2
      go_ret
      exact ⟨by rw [HY.out]; rfl, rfl⟩
def toB (m : Int) (l : List Int) : Bool := l.all fun x => withinB x 0 m
theorem allTo_any (m : Int) (l : List Int) (v : Value) (w : World) (hx : RowAt w v l.length 1 (ints l)) (hn : l.length ≤ 9000000000000000000) :
    Calls Try.prog 30 #[.int .i64 m, v] w fun e w' => e = .returned (.bool (toB m l)) ∧ Below w.heap.size w w' := by
  have HX := hide' hx
  clear hx
  go_enter Try.func30, Try.ntmps30
  go_upto_region 1 with fail
  have hq := alloc_new w (.cells #[.int .i64 m] 3)
  have hb := below_al w (.cells #[.int .i64 m] 3)
  obtain ⟨w1, hw1⟩ : ∃ x, x = w.alloc (.cells #[.int .i64 m] 3) := ⟨_, rfl⟩
  rw [← hw1] at hq hb ⊢
  have hF : w1.cell? ⟨w.heap.size, 0, none⟩ = some (.int .i64 m) := (cells_at hq 0).trans rfl
  have HA : Hid (Calls Try.prog 55 #[v, .func (.func 56) #[] #[.pointer (some ⟨w.heap.size, 0, none⟩)]] w1 fun e w' => e = .returned (.bool (toB m l)) ∧ w' = w1) := allInt_any m w.heap.size l v w1 (HX.out.below hb (Nat.le_refl _)) hn hF
  have HB := hide' hb
  clear hq hb hF hw1
  go_wp2_with fail
  refine HA.out.mono ?_
  rintro e w2 ⟨rfl, hw2⟩
  obtain rfl := hw2.symm
  go_wp2
  go_ret
  exact ⟨rfl, HB.out⟩
def ltB (a b : Int) : Bool := decide (a < b)
def leB (a b : Int) : Bool := decide (a ≤ b)
theorem ltB_any (a b : Int) (w : World) : Calls Try.prog 58 #[.int .i64 a, .int .i64 b] w fun e w' => e = .returned (.bool (ltB a b)) ∧ Below w.heap.size w w' := by
  go_enter Try.func58, Try.ntmps58
  go_wp2
  go_ret
  exact ⟨rfl, Below.refl _ _⟩
theorem leB_any (a b : Int) (w : World) : Calls Try.prog 59 #[.int .i64 a, .int .i64 b] w fun e w' => e = .returned (.bool (leB a b)) ∧ Below w.heap.size w w' := by
  go_enter Try.func59, Try.ntmps59
  go_wp2
  go_ret
  exact ⟨rfl, Below.refl _ _⟩
set_option maxRecDepth 100000 in
set_option maxHeartbeats 2000000 in
theorem eachLt_any (l : List Int) (v : Value) (w : World) (hx : RowAt w v l.length 1 (ints l)) (hn : l.length ≤ 9000000000000000000) :
    Calls Try.prog 57 #[v, .func (.func 58) #[] #[]] w fun e w' => e = .returned (.bool (eachB ltB l)) ∧ Below w.heap.size w w' := by
  have HX := hide' hx
  have HF : Hid (∀ a b W, Calls Try.prog 58 #[.int .i64 a, .int .i64 b] W fun e w' => e = .returned (.bool (ltB a b)) ∧ Below W.heap.size W w') := ltB_any
  obtain ⟨ag, cg, rfl⟩ := rowAt_slice hx
  clear hx
  go_enter Try.func57, Try.ntmps57
  go_wp2_with fail
  go_loopw [5] (fun i wr => ∃ (j k : Nat), i = .int .i64 k ∧ k = j + 1 ∧ (k ≤ l.length ∨ k = 1) ∧ Hid (∀ j (hj : j + 1 < l.length), j + 1 < k → ltB l[j] l[j + 1] = true) ∧ Hid (Below w.heap.size w wr)) (fun i _ => l.length - (intOf i).toNat)
  case atStart => exact ⟨0, 1, rfl, rfl, Or.inr rfl, fun j _ h => absurd h (by omega), Below.refl _ w⟩
  case round =>
    obtain ⟨j, k, rfl, hjk, hk, HOK, HBE⟩ := hrel
    by_cases hlt : k < l.length
    · have hwj : IntKind.i64.wrap ((k : Int) - 1) = (j : Int) := by rw [Go.IntWalk.i64_in _ (by omega)]; omega
      have hlj : j < l.length := by omega
      obtain ⟨bt, ot, ct', ex, hct⟩ := ints_cell2 HX.out j hlj
      obtain ⟨bt2, ot2, ct2, ex2, hct2⟩ := ints_cell2 HX.out k hlt
      cases ex
      simp only [Value.slice.injEq, Option.some.injEq, Addr.mk.injEq, and_true] at ex2
      obtain ⟨⟨rfl, rfl⟩, _, rfl⟩ := ex2
      have hl1 : j + 1 < l.length := by omega
      have HNX : Hid (ltB l[j] l[k] = true → ∀ j (hj : j + 1 < l.length), j + 1 < k + 1 → ltB l[j] l[j + 1] = true) := fun h => by
        subst hjk
        exact each_next hl1 HOK.out h
      have HNO : Hid (ltB l[j] l[k] = false → eachB ltB l = false) := fun h => by
        subst hjk
        exact each_no hl1 h
      rw [getD_get hlj] at hct
      rw [getD_get hlt] at hct2
      obtain ⟨x, hx⟩ : ∃ x, x = l[j] := ⟨_, rfl⟩
      obtain ⟨y, hy⟩ : ∃ x, x = l[k] := ⟨_, rfl⟩
      rw [← hx] at hct HNX HNO
      rw [← hy] at hct2 HNX HNO
      have q0 := hide' hct
      have q2 := hide' hct2
      have HC := hide' (HF.out x y)
      obtain ⟨q, hq⟩ : ∃ b, b = ltB x y := ⟨_, rfl⟩
      rw [← hq] at HC HNX HNO
      clear hx hy hct hct2 hq hl1 hjk
      go_upto_region 4 with fail
      refine wp_region_tail (fun W => W.cell? ⟨bt, ot + j, none⟩ = some (.int .i64 x) ∧ W.cell? ⟨bt, ot + k, none⟩ = some (.int .i64 y)) 10 (by kernel_rfl) ?_
      refine wpAnyT_letter (fun W => Below w.heap.size w W) HBE.out.drew ?_
      rintro z hbz
      refine wpAnyD_takeAt 0 (some 12) (v := ?_) rfl (by kernel_rfl) (by kernel_rfl) (by kernel_rfl) (by kernel_rfl) (by kernel_rfl) (fun _ _ _ h => h) (by exact ⟨up_cell hbz q0.out, up_cell hbz q2.out⟩) (fun o hop => ?_) ?_
      rotate_left
      · injection hop with hop
        subst hop
        refine ⟨rfl, fun W hW => ?_⟩
        obtain ⟨s0, s1⟩ := hW
        go_simp
        first
        | rfl
        | (constructor <;> rfl)
        | rw [if_neg (by omega)]
      try simp only [Act.put, List.setIfInBounds_toArray, List.set_cons_zero, List.set_cons_succ]
      refine wpAnyD_takeAt 1 (some 13) (v := ?_) rfl (by kernel_rfl) (by kernel_rfl) (by kernel_rfl) (by kernel_rfl) (by kernel_rfl) (fun _ _ _ h => h) (by exact ⟨up_cell hbz q0.out, up_cell hbz q2.out⟩) (fun o hop => ?_) ?_
      rotate_left
      · injection hop with hop
        subst hop
        refine ⟨rfl, fun W hW => ?_⟩
        obtain ⟨s0, s1⟩ := hW
        go_simp
        first
        | rfl
        | (constructor <;> rfl)
        | rw [if_neg (by omega)]
      try simp only [Act.put, List.setIfInBounds_toArray, List.set_cons_zero, List.set_cons_succ]
      refine wpAnyD_takeAt 2 (some 14) (v := ?_) rfl (by kernel_rfl) (by kernel_rfl) (by kernel_rfl) (by kernel_rfl) (by kernel_rfl) (fun _ _ _ h => h) (by exact ⟨up_cell hbz q0.out, up_cell hbz q2.out⟩) (fun o hop => ?_) ?_
      rotate_left
      · injection hop with hop
        subst hop
        refine ⟨rfl, fun W hW => ?_⟩
        obtain ⟨s0, s1⟩ := hW
        go_simp
        first
        | rfl
        | (constructor <;> rfl)
        | rw [if_neg (by omega)]
      try simp only [Act.put, List.setIfInBounds_toArray, List.set_cons_zero, List.set_cons_succ]
      refine wpAnyD_takeAt 3 (some 15) (v := ?_) rfl (by kernel_rfl) (by kernel_rfl) (by kernel_rfl) (by kernel_rfl) (by kernel_rfl) (fun _ _ _ h => h) (by exact ⟨up_cell hbz q0.out, up_cell hbz q2.out⟩) (fun o hop => ?_) ?_
      rotate_left
      · injection hop with hop
        subst hop
        refine ⟨rfl, fun W hW => ?_⟩
        obtain ⟨s0, s1⟩ := hW
        go_simp
        first
        | rfl
        | (constructor <;> rfl)
        | rw [if_neg (by omega)]
      try simp only [Act.put, List.setIfInBounds_toArray, List.set_cons_zero, List.set_cons_succ]
      refine wpAnyD_takeAt 4 (some 16) (v := ?_) rfl (by kernel_rfl) (by kernel_rfl) (by kernel_rfl) (by kernel_rfl) (by kernel_rfl) (fun _ _ _ h => h) (by exact ⟨up_cell hbz q0.out, up_cell hbz q2.out⟩) (fun o hop => ?_) ?_
      rotate_left
      · injection hop with hop
        subst hop
        refine ⟨rfl, fun W hW => ?_⟩
        obtain ⟨s0, s1⟩ := hW
        go_simp
        first
        | rfl
        | (constructor <;> rfl)
        | rw [if_neg (by omega)]
      try simp only [Act.put, List.setIfInBounds_toArray, List.set_cons_zero, List.set_cons_succ]
      refine wpAnyD_takeAt 5 (some 17) (v := ?_) rfl (by kernel_rfl) (by kernel_rfl) (by kernel_rfl) (by kernel_rfl) (by kernel_rfl) (fun _ _ _ h => h) (by exact ⟨up_cell hbz q0.out, up_cell hbz q2.out⟩) (fun o hop => ?_) ?_
      rotate_left
      · injection hop with hop
        subst hop
        refine ⟨rfl, fun W hW => ?_⟩
        obtain ⟨s0, s1⟩ := hW
        go_simp
        first
        | rfl
        | (constructor <;> rfl)
        | rw [if_neg (by omega)]
      try simp only [Act.put, List.setIfInBounds_toArray, List.set_cons_zero, List.set_cons_succ]
      refine wpAnyD_takeAt 6 (some 18) (v := ?_) rfl (by kernel_rfl) (by kernel_rfl) (by kernel_rfl) (by kernel_rfl) (by kernel_rfl) (fun _ _ _ h => h) (by exact ⟨up_cell hbz q0.out, up_cell hbz q2.out⟩) (fun o hop => ?_) ?_
      rotate_left
      · injection hop with hop
        subst hop
        refine ⟨rfl, fun W hW => ?_⟩
        obtain ⟨s0, s1⟩ := hW
        go_simp
        first
        | rfl
        | (constructor <;> rfl)
        | rw [if_neg (by omega)]
      try simp only [Act.put, List.setIfInBounds_toArray, List.set_cons_zero, List.set_cons_succ]
      refine wpAnyD_takeAt 7 (some 19) (v := ?_) rfl (by kernel_rfl) (by kernel_rfl) (by kernel_rfl) (by kernel_rfl) (by kernel_rfl) (fun _ _ _ h => h) (by exact ⟨up_cell hbz q0.out, up_cell hbz q2.out⟩) (fun o hop => ?_) ?_
      rotate_left
      · injection hop with hop
        subst hop
        refine ⟨rfl, fun W hW => ?_⟩
        obtain ⟨s0, s1⟩ := hW
        go_simp
        first
        | rfl
        | (constructor <;> rfl)
        | rw [if_neg (by omega)]
      try simp only [Act.put, List.setIfInBounds_toArray, List.set_cons_zero, List.set_cons_succ]
      refine wpAnyD_takeAt 8 (some 20) (v := ?_) rfl (by kernel_rfl) (by kernel_rfl) (by kernel_rfl) (by kernel_rfl) (by kernel_rfl) (fun _ _ _ h => h) (by exact ⟨up_cell hbz q0.out, up_cell hbz q2.out⟩) (fun o hop => ?_) ?_
      rotate_left
      · injection hop with hop
        subst hop
        refine ⟨rfl, fun W hW => ?_⟩
        obtain ⟨s0, s1⟩ := hW
        go_simp
        first
        | rfl
        | (constructor <;> rfl)
        | rw [if_neg (by omega)]
      try simp only [Act.put, List.setIfInBounds_toArray, List.set_cons_zero, List.set_cons_succ]
      refine wpAnyD_takeAt 9 (some 21) (v := ?_) rfl (by kernel_rfl) (by kernel_rfl) (by kernel_rfl) (by kernel_rfl) (by kernel_rfl) (fun _ _ _ h => h) (by exact ⟨up_cell hbz q0.out, up_cell hbz q2.out⟩) (fun o hop => ?_) ?_
      rotate_left
      · injection hop with hop
        subst hop
        refine ⟨rfl, fun W hW => ?_⟩
        obtain ⟨s0, s1⟩ := hW
        go_simp
        first
        | rfl
        | (constructor <;> rfl)
        | rw [if_neg (by omega)]
      try simp only [Act.put, List.setIfInBounds_toArray, List.set_cons_zero, List.set_cons_succ]
      refine wpAnyT_one (i := 10) (by kernel_rfl) rfl rfl (fun K' hK => ?_)
      go_simp
      go_at_call 58
      refine (HC.out z).mono ?_
      rintro e z2 ⟨rfl, hb2⟩
      replace hbz := hbz.trans (hb2.mono hbz.size)
      clear hb2
      refine hK.out _ _ (fun h => absurd rfl h) ?_
      clear hK K'
      refine wpAnyT_one (i := 11) (by kernel_rfl) rfl rfl (fun K' hK => ?_)
      go_simp
      refine hK.out _ _ (fun _ => by exact ⟨up_cell hbz q0.out, up_cell hbz q2.out⟩) ?_
      clear hK K'
      refine wpAnyT_done (by kernel_rfl) ?_ _
      have HBN := hide' hbz
      clear hbz
      cases q with
      | true =>
        have HY := hide' (HNX.out rfl)
        go_wp2_with fail
        go_roundw
        case rel => exact ⟨k, k + 1, by go_num, rfl, by omega, HY.out, HBN⟩
        case measure => simp [intOf]; omega
      | false =>
        have HZ := hide' (HNO.out rfl)
        go_wp2
        go_ret
        exact ⟨by rw [HZ.out]; rfl, HBN.out⟩
    · have HY := hide' (each_yes (p := ltB) l (fun j' hj' => HOK.out j' hj' (by omega)))
      go_wp2
      go_ret
      exact ⟨by rw [HY.out]; rfl, HBE.out⟩
set_option maxRecDepth 100000 in
set_option maxHeartbeats 2000000 in
theorem eachLe_any (l : List Int) (v : Value) (w : World) (hx : RowAt w v l.length 1 (ints l)) (hn : l.length ≤ 9000000000000000000) :
    Calls Try.prog 57 #[v, .func (.func 59) #[] #[]] w fun e w' => e = .returned (.bool (eachB leB l)) ∧ Below w.heap.size w w' := by
  have HX := hide' hx
  have HF : Hid (∀ a b W, Calls Try.prog 59 #[.int .i64 a, .int .i64 b] W fun e w' => e = .returned (.bool (leB a b)) ∧ Below W.heap.size W w') := leB_any
  obtain ⟨ag, cg, rfl⟩ := rowAt_slice hx
  clear hx
  go_enter Try.func57, Try.ntmps57
  go_wp2_with fail
  go_loopw [5] (fun i wr => ∃ (j k : Nat), i = .int .i64 k ∧ k = j + 1 ∧ (k ≤ l.length ∨ k = 1) ∧ Hid (∀ j (hj : j + 1 < l.length), j + 1 < k → leB l[j] l[j + 1] = true) ∧ Hid (Below w.heap.size w wr)) (fun i _ => l.length - (intOf i).toNat)
  case atStart => exact ⟨0, 1, rfl, rfl, Or.inr rfl, fun j _ h => absurd h (by omega), Below.refl _ w⟩
  case round =>
    obtain ⟨j, k, rfl, hjk, hk, HOK, HBE⟩ := hrel
    by_cases hlt : k < l.length
    · have hwj : IntKind.i64.wrap ((k : Int) - 1) = (j : Int) := by rw [Go.IntWalk.i64_in _ (by omega)]; omega
      have hlj : j < l.length := by omega
      obtain ⟨bt, ot, ct', ex, hct⟩ := ints_cell2 HX.out j hlj
      obtain ⟨bt2, ot2, ct2, ex2, hct2⟩ := ints_cell2 HX.out k hlt
      cases ex
      simp only [Value.slice.injEq, Option.some.injEq, Addr.mk.injEq, and_true] at ex2
      obtain ⟨⟨rfl, rfl⟩, _, rfl⟩ := ex2
      have hl1 : j + 1 < l.length := by omega
      have HNX : Hid (leB l[j] l[k] = true → ∀ j (hj : j + 1 < l.length), j + 1 < k + 1 → leB l[j] l[j + 1] = true) := fun h => by
        subst hjk
        exact each_next hl1 HOK.out h
      have HNO : Hid (leB l[j] l[k] = false → eachB leB l = false) := fun h => by
        subst hjk
        exact each_no hl1 h
      rw [getD_get hlj] at hct
      rw [getD_get hlt] at hct2
      obtain ⟨x, hx⟩ : ∃ x, x = l[j] := ⟨_, rfl⟩
      obtain ⟨y, hy⟩ : ∃ x, x = l[k] := ⟨_, rfl⟩
      rw [← hx] at hct HNX HNO
      rw [← hy] at hct2 HNX HNO
      have q0 := hide' hct
      have q2 := hide' hct2
      have HC := hide' (HF.out x y)
      obtain ⟨q, hq⟩ : ∃ b, b = leB x y := ⟨_, rfl⟩
      rw [← hq] at HC HNX HNO
      clear hx hy hct hct2 hq hl1 hjk
      go_upto_region 4 with fail
      refine wp_region_tail (fun W => W.cell? ⟨bt, ot + j, none⟩ = some (.int .i64 x) ∧ W.cell? ⟨bt, ot + k, none⟩ = some (.int .i64 y)) 10 (by kernel_rfl) ?_
      refine wpAnyT_letter (fun W => Below w.heap.size w W) HBE.out.drew ?_
      rintro z hbz
      refine wpAnyD_takeAt 0 (some 12) (v := ?_) rfl (by kernel_rfl) (by kernel_rfl) (by kernel_rfl) (by kernel_rfl) (by kernel_rfl) (fun _ _ _ h => h) (by exact ⟨up_cell hbz q0.out, up_cell hbz q2.out⟩) (fun o hop => ?_) ?_
      rotate_left
      · injection hop with hop
        subst hop
        refine ⟨rfl, fun W hW => ?_⟩
        obtain ⟨s0, s1⟩ := hW
        go_simp
        first
        | rfl
        | (constructor <;> rfl)
        | rw [if_neg (by omega)]
      try simp only [Act.put, List.setIfInBounds_toArray, List.set_cons_zero, List.set_cons_succ]
      refine wpAnyD_takeAt 1 (some 13) (v := ?_) rfl (by kernel_rfl) (by kernel_rfl) (by kernel_rfl) (by kernel_rfl) (by kernel_rfl) (fun _ _ _ h => h) (by exact ⟨up_cell hbz q0.out, up_cell hbz q2.out⟩) (fun o hop => ?_) ?_
      rotate_left
      · injection hop with hop
        subst hop
        refine ⟨rfl, fun W hW => ?_⟩
        obtain ⟨s0, s1⟩ := hW
        go_simp
        first
        | rfl
        | (constructor <;> rfl)
        | rw [if_neg (by omega)]
      try simp only [Act.put, List.setIfInBounds_toArray, List.set_cons_zero, List.set_cons_succ]
      refine wpAnyD_takeAt 2 (some 14) (v := ?_) rfl (by kernel_rfl) (by kernel_rfl) (by kernel_rfl) (by kernel_rfl) (by kernel_rfl) (fun _ _ _ h => h) (by exact ⟨up_cell hbz q0.out, up_cell hbz q2.out⟩) (fun o hop => ?_) ?_
      rotate_left
      · injection hop with hop
        subst hop
        refine ⟨rfl, fun W hW => ?_⟩
        obtain ⟨s0, s1⟩ := hW
        go_simp
        first
        | rfl
        | (constructor <;> rfl)
        | rw [if_neg (by omega)]
      try simp only [Act.put, List.setIfInBounds_toArray, List.set_cons_zero, List.set_cons_succ]
      refine wpAnyD_takeAt 3 (some 15) (v := ?_) rfl (by kernel_rfl) (by kernel_rfl) (by kernel_rfl) (by kernel_rfl) (by kernel_rfl) (fun _ _ _ h => h) (by exact ⟨up_cell hbz q0.out, up_cell hbz q2.out⟩) (fun o hop => ?_) ?_
      rotate_left
      · injection hop with hop
        subst hop
        refine ⟨rfl, fun W hW => ?_⟩
        obtain ⟨s0, s1⟩ := hW
        go_simp
        first
        | rfl
        | (constructor <;> rfl)
        | rw [if_neg (by omega)]
      try simp only [Act.put, List.setIfInBounds_toArray, List.set_cons_zero, List.set_cons_succ]
      refine wpAnyD_takeAt 4 (some 16) (v := ?_) rfl (by kernel_rfl) (by kernel_rfl) (by kernel_rfl) (by kernel_rfl) (by kernel_rfl) (fun _ _ _ h => h) (by exact ⟨up_cell hbz q0.out, up_cell hbz q2.out⟩) (fun o hop => ?_) ?_
      rotate_left
      · injection hop with hop
        subst hop
        refine ⟨rfl, fun W hW => ?_⟩
        obtain ⟨s0, s1⟩ := hW
        go_simp
        first
        | rfl
        | (constructor <;> rfl)
        | rw [if_neg (by omega)]
      try simp only [Act.put, List.setIfInBounds_toArray, List.set_cons_zero, List.set_cons_succ]
      refine wpAnyD_takeAt 5 (some 17) (v := ?_) rfl (by kernel_rfl) (by kernel_rfl) (by kernel_rfl) (by kernel_rfl) (by kernel_rfl) (fun _ _ _ h => h) (by exact ⟨up_cell hbz q0.out, up_cell hbz q2.out⟩) (fun o hop => ?_) ?_
      rotate_left
      · injection hop with hop
        subst hop
        refine ⟨rfl, fun W hW => ?_⟩
        obtain ⟨s0, s1⟩ := hW
        go_simp
        first
        | rfl
        | (constructor <;> rfl)
        | rw [if_neg (by omega)]
      try simp only [Act.put, List.setIfInBounds_toArray, List.set_cons_zero, List.set_cons_succ]
      refine wpAnyD_takeAt 6 (some 18) (v := ?_) rfl (by kernel_rfl) (by kernel_rfl) (by kernel_rfl) (by kernel_rfl) (by kernel_rfl) (fun _ _ _ h => h) (by exact ⟨up_cell hbz q0.out, up_cell hbz q2.out⟩) (fun o hop => ?_) ?_
      rotate_left
      · injection hop with hop
        subst hop
        refine ⟨rfl, fun W hW => ?_⟩
        obtain ⟨s0, s1⟩ := hW
        go_simp
        first
        | rfl
        | (constructor <;> rfl)
        | rw [if_neg (by omega)]
      try simp only [Act.put, List.setIfInBounds_toArray, List.set_cons_zero, List.set_cons_succ]
      refine wpAnyD_takeAt 7 (some 19) (v := ?_) rfl (by kernel_rfl) (by kernel_rfl) (by kernel_rfl) (by kernel_rfl) (by kernel_rfl) (fun _ _ _ h => h) (by exact ⟨up_cell hbz q0.out, up_cell hbz q2.out⟩) (fun o hop => ?_) ?_
      rotate_left
      · injection hop with hop
        subst hop
        refine ⟨rfl, fun W hW => ?_⟩
        obtain ⟨s0, s1⟩ := hW
        go_simp
        first
        | rfl
        | (constructor <;> rfl)
        | rw [if_neg (by omega)]
      try simp only [Act.put, List.setIfInBounds_toArray, List.set_cons_zero, List.set_cons_succ]
      refine wpAnyD_takeAt 8 (some 20) (v := ?_) rfl (by kernel_rfl) (by kernel_rfl) (by kernel_rfl) (by kernel_rfl) (by kernel_rfl) (fun _ _ _ h => h) (by exact ⟨up_cell hbz q0.out, up_cell hbz q2.out⟩) (fun o hop => ?_) ?_
      rotate_left
      · injection hop with hop
        subst hop
        refine ⟨rfl, fun W hW => ?_⟩
        obtain ⟨s0, s1⟩ := hW
        go_simp
        first
        | rfl
        | (constructor <;> rfl)
        | rw [if_neg (by omega)]
      try simp only [Act.put, List.setIfInBounds_toArray, List.set_cons_zero, List.set_cons_succ]
      refine wpAnyD_takeAt 9 (some 21) (v := ?_) rfl (by kernel_rfl) (by kernel_rfl) (by kernel_rfl) (by kernel_rfl) (by kernel_rfl) (fun _ _ _ h => h) (by exact ⟨up_cell hbz q0.out, up_cell hbz q2.out⟩) (fun o hop => ?_) ?_
      rotate_left
      · injection hop with hop
        subst hop
        refine ⟨rfl, fun W hW => ?_⟩
        obtain ⟨s0, s1⟩ := hW
        go_simp
        first
        | rfl
        | (constructor <;> rfl)
        | rw [if_neg (by omega)]
      try simp only [Act.put, List.setIfInBounds_toArray, List.set_cons_zero, List.set_cons_succ]
      refine wpAnyT_one (i := 10) (by kernel_rfl) rfl rfl (fun K' hK => ?_)
      go_simp
      go_at_call 59
      refine (HC.out z).mono ?_
      rintro e z2 ⟨rfl, hb2⟩
      replace hbz := hbz.trans (hb2.mono hbz.size)
      clear hb2
      refine hK.out _ _ (fun h => absurd rfl h) ?_
      clear hK K'
      refine wpAnyT_one (i := 11) (by kernel_rfl) rfl rfl (fun K' hK => ?_)
      go_simp
      refine hK.out _ _ (fun _ => by exact ⟨up_cell hbz q0.out, up_cell hbz q2.out⟩) ?_
      clear hK K'
      refine wpAnyT_done (by kernel_rfl) ?_ _
      have HBN := hide' hbz
      clear hbz
      cases q with
      | true =>
        have HY := hide' (HNX.out rfl)
        go_wp2_with fail
        go_roundw
        case rel => exact ⟨k, k + 1, by go_num, rfl, by omega, HY.out, HBN⟩
        case measure => simp [intOf]; omega
      | false =>
        have HZ := hide' (HNO.out rfl)
        go_wp2
        go_ret
        exact ⟨by rw [HZ.out]; rfl, HBN.out⟩
    · have HY := hide' (each_yes (p := leB) l (fun j' hj' => HOK.out j' hj' (by omega)))
      go_wp2
      go_ret
      exact ⟨by rw [HY.out]; rfl, HBE.out⟩

end Go.Proofs.Ytmbgjmkndhjilak
