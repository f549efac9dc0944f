/- One step of the frequency, in the program and in the document; whether two floats are the same. -/
import Derived.Test.YtligmokepafnbajF0
namespace Go.Proofs.Ytligmokepafnbaj
open Go.RowKit Go.Shelf

/-- P12.1, but for the bits of what is no number. -/
def stepO (f made drawn damp mass dt : Option Nat) : Option Nat :=
  fop .add f (fop .quo (fop .mul (fop .sub (fop .sub made drawn) (fop .mul damp f)) dt) mass)

attribute [local go_sem] run_fadd run_fsub run_fmul run_fquo

set_option maxRecDepth 100000 in
set_option maxHeartbeats 4000000 in
theorem Step_any (f made drawn damp mass dt : Nat) (w : World) : Calls Try.prog 19 #[.float .f64 f, .float .f64 made, .float .f64 drawn, .float .f64 damp, .float .f64 mass, .float .f64 dt] w fun e w' => ∃ r n, e = .returned (.float .f64 r) ∧ nm r = stepO (nm f) (nm made) (nm drawn) (nm damp) (nm mass) (nm dt) ∧ w' = w.drewN n := by
  go_enter Try.func19, Try.ntmps19
  go_wp2
  go_ret
  refine ⟨_, _, rfl, ?_, rfl⟩
  simp only [nm_fres, stepO]

set_option maxRecDepth 100000 in
set_option maxHeartbeats 4000000 in
theorem StepOf_any (f made drawn damp mass dt : Nat) (w : World) : Calls Try.prog 24 #[.float .f64 f, .float .f64 made, .float .f64 drawn, .float .f64 damp, .float .f64 mass, .float .f64 dt] w fun e w' => ∃ r n, e = .returned (.float .f64 r) ∧ nm r = stepO (nm f) (nm made) (nm drawn) (nm damp) (nm mass) (nm dt) ∧ w' = w.drewN n := by
  go_enter Try.func24, Try.ntmps24
  go_wp2
  go_ret
  refine ⟨_, _, rfl, ?_, rfl⟩
  simp only [nm_fres, stepO]

theorem one_over {x : Nat} (h : nanB x = false) : ∃ r, floatBits .quo .f64 4607182418800017408 x = some r := by
  have h1 : Ieee.double.read 4607182418800017408 = .number false 4503599627370496 (-52) := by decide
  show ∃ r, Option.map Ieee.double.write ((Ieee.double.read 4607182418800017408).quotient _ (Ieee.double.read x)) = some r
  rw [h1]
  unfold nanB at h
  cases e : Ieee.double.read x with
  | number s m i =>
    by_cases hm : m = 0
    · subst hm; exact ⟨_, rfl⟩
    · simp only [Ieee.Datum.quotient, if_neg hm]; exact ⟨_, rfl⟩
  | infinity s => exact ⟨_, rfl⟩
  | nan s q => rw [e] at h; cases h

set_option maxRecDepth 100000 in
set_option maxHeartbeats 4000000 in
theorem SameFloat_any (a b : Nat) (h : nm a = nm b) (w : World) : Calls Try.prog 12 #[.float .f64 a, .float .f64 b] w fun e w' => e = .returned (.bool true) ∧ w' = w := by
  cases hn : nanB a with
  | true =>
    have hb : nanB b = true := nm_none_iff.1 (by rw [← h]; exact nm_none hn)
    have o1 := order_left (y := a) hn
    have o2 := order_left (y := b) hb
    clear h hn hb
    go_enter Try.func12, Try.ntmps12
    go_wp2
    go_ret
    exact ⟨rfl, rfl⟩
  | false =>
    rw [nm_some hn] at h
    obtain ⟨rfl, hb⟩ := nm_eq h.symm
    obtain ⟨r, hr⟩ := one_over hn
    have o1 := order_self hn
    have o2 := order_self (floatBits_nan hr)
    have q1 : fdr .quo 4607182418800017408 b = 0 := by unfold fdr; rw [hr]; rfl
    have q2 : ∀ w, fres .quo w 4607182418800017408 b = r := fun w => by unfold fres; rw [hr]
    clear h hn hb hr
    go_enter Try.func12, Try.ntmps12
    go_wp2
    go_ret
    exact ⟨rfl, rfl⟩

end Go.Proofs.Ytligmokepafnbaj
