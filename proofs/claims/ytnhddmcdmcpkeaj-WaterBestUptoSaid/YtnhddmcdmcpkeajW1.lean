/- Rows of rows; within, all, mayBe, mayCome, sized. -/
import Derived.Test.YtnhddmcdmcpkeajYt
import Derived.Test.YtnhddmcdmcpkeajYv
namespace Go.Proofs.Ytnhddmcdmcpkeaj
open Go.RowKit Go.Shelf

structure LakeM where
  least : Int
  most : Int
  start : Int
  turb : Int
  worth : Int
def LakeM.cells (d : LakeM) : List Value := [.int .i64 d.least, .int .i64 d.most, .int .i64 d.start, .int .i64 d.turb, .int .i64 d.worth]
/-- A table that lies somewhere. -/
def TabAt (W : World) (v : Value) (t : List (List Int)) : Prop := ∃ vals : List Value, vals.length = t.length ∧ RowAt W v t.length 1 vals ∧ ∀ (j : Nat) (x : Value) (l : List Int), vals[j]? = some x → t[j]? = some l → RowAt W x l.length 1 (ints l)
theorem TabAt.below {W W' : World} {B : Nat} {v : Value} {t : List (List Int)} (h : TabAt W v t) (hb : Below B W W') (hs : W.heap.size ≤ B) : TabAt W' v t := by
  obtain ⟨vals, h1, h2, h3⟩ := h
  exact ⟨vals, h1, h2.below hb hs, fun j x l hx hl => (h3 j x l hx hl).below hb hs⟩
theorem TabAt.slice {W : World} {v : Value} {t : List (List Int)} (h : TabAt W v t) : ∃ a c, v = .slice a t.length c := by
  obtain ⟨_, _, h2, _⟩ := h
  exact rowAt_slice h2
theorem TabAt.cell {W : World} {v : Value} {t : List (List Int)} (h : TabAt W v t) (k : Nat) (hk : k < t.length) : ∃ b off c a2 c2, v = .slice (some ⟨b, off, none⟩) t.length c ∧ W.cell? ⟨b, off + k, none⟩ = some (.slice a2 (t[k]).length c2) ∧ RowAt W (.slice a2 (t[k]).length c2) (t[k]).length 1 (ints t[k]) := by
  obtain ⟨vals, h1, ⟨_, a, c, rfl, hc⟩, h3⟩ := h
  have hk' : k < vals.length := by omega
  have hv := List.getElem?_eq_getElem hk'
  obtain ⟨b, off, rfl, hcell⟩ := hc k _ hv
  have hr := h3 k _ _ hv (List.getElem?_eq_getElem hk)
  obtain ⟨a2, c2, e⟩ := rowAt_slice hr
  rw [e] at hcell hr
  exact ⟨b, off, c, a2, c2, rfl, hcell, hr⟩
def withinB (x a b : Int) : Bool := decide (a ≤ x) && decide (x ≤ b)

theorem within_any (x a b : Int) (w : World) : Calls Try.prog 58 #[.int .i64 x, .int .i64 a, .int .i64 b] w fun e w' => e = .returned (.bool (withinB x a b)) ∧ w' = w := by
  go_enter Try.func58, Try.ntmps58
  go_wp2
  all_goals
    go_ret
    exact ⟨ret_bool (by unfold withinB; simp_all <;> omega), rfl⟩
theorem worth_any (x : Int) (w : World) : Calls Try.prog 47 #[.int .i64 x] w fun e w' => e = .returned (.bool (withinB x 0 1000)) ∧ w' = w := by
  have HW := hide' (within_any x 0 1000 w)
  go_enter Try.func47, Try.ntmps47
  go_wp2_with fail
  refine HW.out.mono ?_
  rintro e w1 ⟨rfl, hw1⟩
  obtain rfl := hw1.symm
  go_wp2
  go_ret
  exact ⟨rfl, rfl⟩
theorem come_one (x : Int) (w : World) : Calls Try.prog 59 #[.int .i64 x] w fun e w' => e = .returned (.bool (withinB x 0 10)) ∧ w' = w := by
  have HW := hide' (within_any x 0 10 w)
  go_enter Try.func59, Try.ntmps59
  go_wp2_with fail
  refine HW.out.mono ?_
  rintro e w1 ⟨rfl, hw1⟩
  obtain rfl := hw1.symm
  go_wp2
  go_ret
  exact ⟨rfl, rfl⟩
theorem all_next {α : Type} {l : List α} {p : α → Bool} {k : Nat} (hk : k < l.length) (h : ∀ j (hj : j < l.length), j < k → p l[j] = true) (hp : p l[k] = true) : ∀ j (hj : j < l.length), j < k + 1 → p l[j] = true := fun j hj hjk => by
  by_cases e : j = k
  · subst e; exact hp
  · exact h j hj (by omega)
theorem all_no {α : Type} {l : List α} {p : α → Bool} {k : Nat} (hk : k < l.length) (hp : p l[k] = false) : l.all p = false := List.all_eq_false.2 ⟨_, List.getElem_mem hk, by rw [hp]; decide⟩
theorem all_yes {α : Type} {l : List α} {p : α → Bool} {k : Nat} (hk : l.length ≤ k) (h : ∀ j (hj : j < l.length), j < k → p l[j] = true) : l.all p = true := List.all_eq_true.2 fun x hx => by
  obtain ⟨j, hj, rfl⟩ := List.mem_iff_getElem.1 hx
  exact h j hj (by omega)

set_option maxRecDepth 100000 in
set_option maxHeartbeats 2000000 in
theorem allInt_any (p : Int → Bool) (f : Nat) (hc : ∀ args W, (callFunc f args).run Try.prog W = .ok (.enter f args) W) (l : List Int) (v : Value) (w : World) (hx : RowAt w v l.length 1 (ints l)) (hn : l.length ≤ 9000000000000000000)
    (hF : ∀ x W, Calls Try.prog f #[.int .i64 x] W fun e w' => e = .returned (.bool (p x)) ∧ w' = W) :
    Calls Try.prog 46 #[v, .func (.func f) #[] #[]] w fun e w' => e = .returned (.bool (l.all p)) ∧ w' = w := by
  have HX := hide' hx
  have HF := hide' hF
  obtain ⟨ag, cg, rfl⟩ := rowAt_slice hx
  clear hx hF
  go_enter Try.func46, Try.ntmps46
  go_wp2_with fail
  go_loopw [9] (fun i wr => ∃ (k : Nat), i = .int .i64 k ∧ k ≤ l.length ∧ Hid (∀ j (hj : j < l.length), j < k → p l[j] = true) ∧ wr = w) (fun i _ => l.length - (intOf i).toNat)
  case atStart => exact ⟨0, rfl, Nat.zero_le _, fun j _ h => absurd h (Nat.not_lt_zero j), rfl⟩
  case round =>
    obtain ⟨k, rfl, hk, HOK, rfl⟩ := hrel
    by_cases hlt : k < l.length
    · obtain ⟨bt, ot, ct', ex, hct⟩ := ints_cell HX.out k hlt
      cases ex
      have HNX := hide' (all_next (p := p) hlt HOK.out)
      have HNO := hide' (all_no (p := p) hlt)
      have hg : l.getD k 0 = l[k] := by rw [List.getD_eq_getElem?_getD, List.getElem?_eq_getElem hlt]; rfl
      rw [hg] at hct
      obtain ⟨x, hx⟩ : ∃ x, x = l[k] := ⟨_, rfl⟩
      rw [← hx] at hct HNX HNO
      have HC := hide' (HF.out x wr)
      obtain ⟨b, hb⟩ : ∃ b, b = p x := ⟨_, rfl⟩
      rw [← hb] at HC HNX HNO
      clear hg hx hb
      go_wp2_with fail
      refine HC.out.mono ?_
      rintro e w1 ⟨rfl, hw1⟩
      obtain rfl := hw1.symm
      cases b with
      | true =>
        have HY := hide' (HNX.out rfl)
        go_wp2
        go_roundw
        case rel => exact ⟨k + 1, by go_num, by omega, HY.out, trivial⟩
        case measure => simp [intOf]; omega
      | false =>
        have HZ := hide' (HNO.out rfl)
        go_wp2
        go_ret
        exact ⟨by rw [HZ.out]; rfl, rfl⟩
    · have HY := hide' (all_yes (p := p) (by omega) HOK.out)
      go_wp2
      go_ret
      exact ⟨by rw [HY.out]; rfl, rfl⟩
set_option maxRecDepth 100000 in
set_option maxHeartbeats 2000000 in
theorem allRow_any (p : List Int → Bool) (f F : Nat) (hc : ∀ args W, (callFunc f args).run Try.prog W = .ok (.enter f args) W) (t : List (List Int)) (v : Value) (w : World) (hx : TabAt w v t) (hn : t.length ≤ 9000000000000000000)
    (hF : ∀ l x, l ∈ t → RowAt w x l.length 1 (ints l) → Calls Try.prog f #[x, .pointer (some ⟨F, 0, none⟩)] w fun e w' => e = .returned (.bool (p l)) ∧ w' = w) :
    Calls Try.prog 57 #[v, .func (.func f) #[] #[.pointer (some ⟨F, 0, none⟩)]] w fun e w' => e = .returned (.bool (t.all p)) ∧ w' = w := by
  have HX := hide' hx
  have HF := hide' hF
  obtain ⟨ag, cg, rfl⟩ := hx.slice
  clear hx hF
  go_enter Try.func57, Try.ntmps57
  go_wp2_with fail
  go_loopw [9] (fun i wr => ∃ (k : Nat), i = .int .i64 k ∧ k ≤ t.length ∧ Hid (∀ j (hj : j < t.length), j < k → p t[j] = true) ∧ wr = w) (fun i _ => t.length - (intOf i).toNat)
  case atStart => exact ⟨0, rfl, Nat.zero_le _, fun j _ h => absurd h (Nat.not_lt_zero j), rfl⟩
  case round =>
    obtain ⟨k, rfl, hk, HOK, rfl⟩ := hrel
    by_cases hlt : k < t.length
    · obtain ⟨bt, ot, ct', a2, c2, ex, hct, hrow⟩ := HX.out.cell k hlt
      cases ex
      have HNX := hide' (all_next (p := p) hlt HOK.out)
      have HNO := hide' (all_no (p := p) hlt)
      have HC := hide' (HF.out _ _ (List.getElem_mem hlt) hrow)
      obtain ⟨m, hm⟩ : ∃ m, m = (t[k]).length := ⟨_, rfl⟩
      rw [← hm] at hct HC
      obtain ⟨b, hb⟩ : ∃ b, b = p t[k] := ⟨_, rfl⟩
      rw [← hb] at HC HNX HNO
      clear hm hb hrow
      go_wp2_with fail
      refine HC.out.mono ?_
      rintro e w1 ⟨rfl, hw1⟩
      obtain rfl := hw1.symm
      cases b with
      | true =>
        have HY := hide' (HNX.out rfl)
        go_wp2
        go_roundw
        case rel => exact ⟨k + 1, by go_num, by omega, HY.out, trivial⟩
        case measure => simp [intOf]; omega
      | false =>
        have HZ := hide' (HNO.out rfl)
        go_wp2
        go_ret
        exact ⟨by rw [HZ.out]; rfl, rfl⟩
    · have HY := hide' (all_yes (p := p) (by omega) HOK.out)
      go_wp2
      go_ret
      exact ⟨by rw [HY.out]; rfl, rfl⟩
theorem cf24 (args : Array Value) (W : World) : (callFunc 59 args).run Try.prog W = .ok (.enter 59 args) W := by
  go_simp
end Go.Proofs.Ytnhddmcdmcpkeaj
