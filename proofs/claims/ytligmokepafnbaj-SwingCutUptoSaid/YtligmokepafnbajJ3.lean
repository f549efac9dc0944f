/- A row of eighths; picked. -/
import Derived.Test.YtligmokepafnbajJ1
import Derived.Test.YtligmokepafnbajJ2
import Derived.Test.YtligmokepafnbajH7
namespace Go.Proofs.Ytligmokepafnbaj
open Go.RowKit Go.Shelf

theorem allC_spec {f : Nat → Bool} : ∀ {n : Nat}, allC f n = true → ∀ k, k < n → f k = true
  | 0, _, k, hk => absurd hk (Nat.not_lt_zero k)
  | n + 1, h, k, hk => by
    simp only [allC, Bool.and_eq_true] at h
    by_cases e : k = n
    · subst e; exact h.1
    · exact allC_spec h.2 k (by omega)
theorem fitB_spec {o : Option Nat} (h : fitB o = true) : ∃ x, o = some x ∧ x < 2 ^ 64 ∧ rng x < 9218868437227405312 := by
  cases o with
  | none => cases h
  | some x =>
    simp only [fitB, Bool.and_eq_true] at h
    exact ⟨x, rfl, Nat.le_of_ble_eq_true h.1, Nat.le_of_ble_eq_true h.2⟩
theorem fitC_spec {o : Option Nat} (h : fitC o = true) : ∃ x, o = some x ∧ x < 2 ^ 64 ∧ rng x < 9218868437227405312 := by
  cases o with
  | none => cases h
  | some x =>
    simp only [fitC, Bool.and_eq_true] at h
    exact ⟨x, rfl, Nat.le_of_ble_eq_true h.1, Nat.le_of_ble_eq_true h.2⟩
theorem eighth_num (n : Int) (h : -8000 ≤ n ∧ n < 8000) : ∃ x, floatBits .quo .f64 (FloatKind.f64.nearest n) 4620693217682128896 = some x ∧ x < 2 ^ 64 ∧ rng x < 9218868437227405312 := by
  cases n with
  | ofNat k => exact fitB_spec (all_spec fit_up k (by have h2 : (k : Int) < 8000 := h.2; omega))
  | negSucc k => exact fitC_spec (allC_spec fit_down k (by omega))

theorem tmod_within (x : Int) (f : Nat) (hx : 0 ≤ x) (hf : 0 < f) : ∃ p : Nat, x.tmod f = (p : Int) ∧ p < f := by
  refine ⟨(x.tmod f).toNat, ?_, ?_⟩
  · have := Int.tmod_nonneg (f : Int) hx
    omega
  · have := Int.tmod_lt_of_pos x (b := (f : Int)) (by omega)
    omega
theorem picked_is (n : Int) (f : Nat) (h : I6 n) (hf : 0 < f) (hf1 : f ≤ 3000) :
    ∃ p : Nat, p < f ∧ ∀ w : World, Calls Try.prog 17 #[.int .i64 n, .int .i64 f] w fun e w' => e = .returned (.int .i64 (p : Int)) ∧ w' = w := by
  obtain ⟨h0, h1⟩ := h
  have hf0 : ((f : Int) == 0) = false := by simp; omega
  by_cases hn : n < 0
  · obtain ⟨p, hp, hlt⟩ := tmod_within (-(n + 1)) f (by omega) hf
    rw [Int.neg_tmod] at hp
    refine ⟨p, hlt, fun w => ?_⟩
    go_enter Try.func17, Try.ntmps17
    go_wp2
    go_ret
    exact ⟨by first | rfl | rw [hp], rfl⟩
  · obtain ⟨p, hp, hlt⟩ := tmod_within n f (by omega) hf
    refine ⟨p, hlt, fun w => ?_⟩
    go_enter Try.func17, Try.ntmps17
    go_wp2
    go_ret
    exact ⟨by first | rfl | rw [hp], rfl⟩

attribute [local go_sem] run_fadd run_fsub run_fmul run_fquo run_store_float

set_option maxRecDepth 100000 in
set_option maxHeartbeats 2000000 in
theorem wave_any (raw : List Int) (v : Value) (w : World) (hr : RowAt w v raw.length 1 (ints raw)) (_hn : raw.length ≤ 2000000) :
    Calls Try.prog 16 #[v] w fun e w' => ∃ (v' : Value) (m : List Nat), e = .returned v' ∧ w'.ownsRow w.heap.size 22 1 v' m.length (fls m) ∧ m.length ≤ 50 ∧ (∀ x ∈ m, x < 2 ^ 64 ∧ rng x < 9218868437227405312) ∧ Below w.heap.size w w' := by
  obtain ⟨i22, hi22, h220, h221, h222⟩ := info_parts Try.info22
  have HR := hide' hr
  obtain ⟨a, cap, rfl⟩ := rowAt_slice hr
  clear hr
  go_enter Try.func16, Try.ntmps16
  go_wp2_with fail
  go_loopw [3, 4] (fun o i wr => ∃ (k : Nat) (m : List Nat), i = .int .i64 k ∧ k ≤ raw.length ∧ k ≤ 50 ∧ Hid (m.length = k ∧ (∀ x ∈ m, x < 2 ^ 64 ∧ rng x < 9218868437227405312) ∧ wr.ownsRow w.heap.size 22 1 o m.length (fls m)) ∧ Hid (Below w.heap.size w wr)) (fun _ i _ => raw.length - (intOf i).toNat)
  case atStart => exact ⟨0, [], rfl, Nat.zero_le _, Nat.zero_le _, ⟨rfl, (fun x hx => by cases hx), World.ownsRow_nil _ _ _ _⟩, Below.refl _ w⟩
  case round =>
    obtain ⟨k, m, rfl, hk, hk5, HM, HBE⟩ := hrel
    obtain ⟨oa, oc, hov⟩ := own_slice HM.out.2.2
    subst hov
    by_cases hlt : k < raw.length ∧ k < 50
    · obtain ⟨hkr, hk2⟩ := hlt
      obtain ⟨bt, ot, ct', ex, hct⟩ := ints_cell2 HR.out k hkr
      cases ex
      have d0 := up_cell HBE.out hct
      obtain ⟨x, hx⟩ : ∃ x, x = raw.getD k 0 := ⟨_, rfl⟩
      rw [← hx] at d0
      have ht : -8000 ≤ x.tmod 8000 ∧ x.tmod 8000 < 8000 := by
        have h1 := Int.tmod_lt_of_pos x (b := 8000) (by decide)
        have h2 : -8000 ≤ x.tmod 8000 := by
          have h3 := Int.tmod_lt_of_pos (-x) (b := 8000) (by decide)
          rw [Int.neg_tmod] at h3
          omega
        exact ⟨h2, h1⟩
      obtain ⟨q, hq, hq1, hq2⟩ := eighth_num (x.tmod 8000) ht
      have q1 : fdr .quo (floatOfInt .f64 (x.tmod 8000)) 4620693217682128896 = 0 := by
        have : floatBits .quo .f64 (floatOfInt .f64 (x.tmod 8000)) 4620693217682128896 = some q := hq
        unfold fdr; rw [this]; rfl
      have q2 : ∀ w, fres .quo w (floatOfInt .f64 (x.tmod 8000)) 4620693217682128896 = q := fun w => by
        have : floatBits .quo .f64 (floatOfInt .f64 (x.tmod 8000)) 4620693217682128896 = some q := hq
        unfold fres; rw [this]
      have HQ : Hid (q < 2 ^ 64 ∧ rng q < 9218868437227405312) := ⟨hq1, hq2⟩
      have HLK := hide' HM.out.1
      clear hct hx hq hq1 hq2 ht
      go_wp2_with (at_builtin; refine wpList_append_own _ rfl _ _ 26 rfl w.heap.size 22 i22 (.float .f64 0) 1 8 Try.underlying26 hi22 h220 h221 h222 rfl (by decide) _ _ _ rfl (HM.out.2.2.alloc _) ⟨wr.heap.size, 0, none⟩ 1 1 [.float .f64 q] rfl rfl (cell_one_new _ _ _) (one_cell rfl) (by have := HLK.out; unfold maxLen; omega) (by have := HLK.out; omega) (by have := HBE.out.size; simp; omega) ?_; intro v' w2 hown' hgrow _; refine Still.go ?_)
      unfold Still
      have HM2 : Hid ((m ++ [q]).length = k + 1 ∧ (∀ x ∈ m ++ [q], x < 2 ^ 64 ∧ rng x < 9218868437227405312) ∧ w2.ownsRow w.heap.size 22 1 v' (m ++ [q]).length (fls (m ++ [q]))) := by
        refine ⟨by rw [List.length_append, HLK.out]; rfl, fun x hx => ?_, own_snoc hown'⟩
        rcases List.mem_append.1 hx with h | h
        · exact HM.out.2.1 x h
        · rw [List.mem_singleton.1 h]; exact HQ.out
      have HB2 := hide' (below_app HBE.out HM.out.2.2 (Nat.le_refl _) HBE.out.size hgrow)
      clear hown' hgrow HM HBE
      go_wp2
      go_roundw
      case rel => exact ⟨k + 1, _, by go_num, by omega, by omega, HM2, HB2⟩
      case measure => simp [intOf]; omega
    · have HE := HM
      clear HM
      by_cases h20 : k < raw.length
      all_goals
        go_wp2
        go_ret
        exact ⟨_, m, rfl, HE.out.2.2, by have := HE.out.1; omega, HE.out.2.1, HBE.out⟩
end Go.Proofs.Ytligmokepafnbaj
