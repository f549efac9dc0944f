/- Floats but for which bits 'no number' has: what the four operations give, as a plain function; the tape is asked for the bits of what is no number. -/
import Derived.Test.YtligmokepafnbajB0
namespace Go.Proofs.Ytligmokepafnbaj
open Go.RowKit Go.Shelf

/-- no number -/
def nanB (x : Nat) : Bool := (Ieee.double.read x).isNaN

/-- a float's bits, but of what is no number nothing -/
def nm (x : Nat) : Option Nat := if nanB x then none else some x

theorem nm_some {x : Nat} (h : nanB x = false) : nm x = some x := by unfold nm; rw [h]; rfl
theorem nm_none {x : Nat} (h : nanB x = true) : nm x = none := by unfold nm; rw [h]; rfl
theorem nm_none_iff {x : Nat} : nm x = none ↔ nanB x = true := by
  unfold nm
  cases nanB x <;> simp
theorem nm_eq {x y : Nat} (h : nm x = some y) : x = y ∧ nanB x = false := by
  unfold nm at h
  cases e : nanB x <;> rw [e] at h
  · exact ⟨Option.some.inj h, rfl⟩
  · cases h

def fop (op : BinOp) (a b : Option Nat) : Option Nat :=
  match a, b with
  | some x, some y => floatBits op .f64 x y
  | _, _ => none

theorem read_word (neg : Bool) (rung : Nat) (h : rung ≤ Ieee.double.infRung) : nanB (Ieee.double.word neg rung) = false := by
  have hi : Ieee.double.infRung = 9218868437227405312 := by decide
  have hs : Ieee.double.signWeight = 9223372036854775808 := by decide
  have hb : Ieee.double.binade = 4503599627370496 := by decide
  rw [hi] at h
  have hm : Ieee.double.word neg rung % 9223372036854775808 = rung := by
    unfold Ieee.Format.word
    rw [hs]
    cases neg
    · simp; omega
    · simp; omega
  unfold nanB Ieee.Format.read
  dsimp only
  rw [hs, hb, hi, hm]
  split
  · rfl
  · split
    · rfl
    · split
      · rfl
      · omega

theorem nan_write (d : Ieee.Datum) (h : d.isNaN = false) : nanB (Ieee.double.write d) = false := by
  cases d with
  | number s m e =>
    unfold Ieee.Format.write Ieee.Format.nearest
    dsimp only
    split
    · exact read_word _ _ (Nat.zero_le _)
    · exact read_word _ _ (Nat.min_le_right ..)
  | infinity s => exact read_word _ _ (Nat.le_refl _)
  | nan s f => cases h

theorem map_nan {o : Option Ieee.Datum} {r : Nat} (ho : ∀ d, o = some d → d.isNaN = false) (h : o.map Ieee.double.write = some r) : nanB r = false := by
  cases o with
  | none => cases h
  | some d => cases h; exact nan_write d (ho d rfl)

theorem sum_nan (a b d : Ieee.Datum) (h : a.sum b = some d) : d.isNaN = false := by
  cases a <;> cases b <;> simp only [Ieee.Datum.sum, reduceCtorEq, Option.some.injEq] at h
  · subst h; rfl
  · subst h; rfl
  · subst h; rfl
  · split at h
    · cases h; rfl
    · cases h

theorem product_nan (a b d : Ieee.Datum) (h : a.product b = some d) : d.isNaN = false := by
  cases a <;> cases b <;> simp only [Ieee.Datum.product, reduceCtorEq, Option.some.injEq] at h
  · subst h; rfl
  · split at h
    · cases h
    · cases h; rfl
  · split at h
    · cases h
    · cases h; rfl
  · subst h; rfl

theorem quotient_nan (n : Nat) (a b d : Ieee.Datum) (h : a.quotient n b = some d) : d.isNaN = false := by
  cases a <;> cases b <;> simp only [Ieee.Datum.quotient, reduceCtorEq, Option.some.injEq] at h
  · split at h
    · split at h
      · cases h
      · cases h; rfl
    · cases h; rfl
  · subst h; rfl
  · subst h; rfl

/-- what is some number is no 'no number' -/
theorem floatBits_nan {op : BinOp} {x y r : Nat} (h : floatBits op .f64 x y = some r) : nanB r = false := by
  unfold floatBits at h
  split at h
  · exact map_nan (sum_nan _ _) h
  · exact map_nan (sum_nan _ _) h
  · exact map_nan (product_nan _ _) h
  · exact map_nan (quotient_nan _ _ _) h
  · cases h

theorem opposite_nan (d : Ieee.Datum) : d.opposite.isNaN = d.isNaN := by cases d <;> rfl

theorem sum_left (a b : Ieee.Datum) (h : a.isNaN = true) : a.sum b = none := by
  cases a <;> first | (cases h; done) | rfl
theorem sum_right (a b : Ieee.Datum) (h : b.isNaN = true) : a.sum b = none := by
  cases b <;> first | (cases h; done) | (cases a <;> rfl)
theorem product_left (a b : Ieee.Datum) (h : a.isNaN = true) : a.product b = none := by
  cases a <;> first | (cases h; done) | rfl
theorem product_right (a b : Ieee.Datum) (h : b.isNaN = true) : a.product b = none := by
  cases b <;> first | (cases h; done) | (cases a <;> rfl)
theorem quotient_left (n : Nat) (a b : Ieee.Datum) (h : a.isNaN = true) : a.quotient n b = none := by
  cases a <;> first | (cases h; done) | rfl
theorem quotient_right (n : Nat) (a b : Ieee.Datum) (h : b.isNaN = true) : a.quotient n b = none := by
  cases b <;> first | (cases h; done) | (cases a <;> rfl)

theorem floatBits_left {op : BinOp} {x y : Nat} (h : nanB x = true) : floatBits op .f64 x y = none := by
  unfold nanB at h
  unfold floatBits
  cases op <;> first | rfl | skip
  · show Option.map _ ((Ieee.double.read x).sum _) = none; rw [sum_left _ _ h]; rfl
  · show Option.map _ ((Ieee.double.read x).sum _) = none; rw [sum_left _ _ h]; rfl
  · show Option.map _ ((Ieee.double.read x).product _) = none; rw [product_left _ _ h]; rfl
  · show Option.map _ ((Ieee.double.read x).quotient _ _) = none; rw [quotient_left _ _ _ h]; rfl

theorem floatBits_right {op : BinOp} {x y : Nat} (h : nanB y = true) : floatBits op .f64 x y = none := by
  unfold nanB at h
  unfold floatBits
  cases op <;> first | rfl | skip
  · show Option.map _ ((Ieee.double.read x).sum (Ieee.double.read y)) = none; rw [sum_right _ _ h]; rfl
  · show Option.map _ ((Ieee.double.read x).sum (Ieee.double.read y).opposite) = none; rw [sum_right _ _ (by rw [opposite_nan]; exact h)]; rfl
  · show Option.map _ ((Ieee.double.read x).product (Ieee.double.read y)) = none; rw [product_right _ _ h]; rfl
  · show Option.map _ ((Ieee.double.read x).quotient _ (Ieee.double.read y)) = none; rw [quotient_right _ _ _ h]; rfl

theorem floatBits_fop (op : BinOp) (x y : Nat) : floatBits op .f64 x y = fop op (nm x) (nm y) := by
  cases hx : nanB x
  · cases hy : nanB y
    · rw [nm_some hx, nm_some hy]; rfl
    · rw [floatBits_right hy, nm_none hy]; cases nm x <;> rfl
  · rw [floatBits_left hx, nm_none hx]; rfl

/-- the bits that the program has of an operation -/
def fres (op : BinOp) (w : World) (x y : Nat) : Nat :=
  match floatBits op .f64 x y with
  | some r => r
  | none => (Question.nanBits .f64 x y).cut (w.tape w.drawn (.nanBits .f64 x y))

/-- how often it asks the tape -/
def fdr (op : BinOp) (x y : Nat) : Nat := if (floatBits op .f64 x y).isSome then 0 else 1

theorem nan_cut (t x y : Nat) : nanB ((Question.nanBits .f64 x y).cut t) = true := by
  have hi : Ieee.double.infRung = 9218868437227405312 := by decide
  have hs : Ieee.double.signWeight = 9223372036854775808 := by decide
  have hb : Ieee.double.binade = 4503599627370496 := by decide
  have hc : (Question.nanBits .f64 x y).cut t = (t % 2) * 9223372036854775808 + 9218868437227405312 + 1 + (t / 2) % 4503599627370495 := rfl
  have h1 : t / 2 % 4503599627370495 < 4503599627370495 := Nat.mod_lt _ (by decide)
  generalize t / 2 % 4503599627370495 = q at hc h1
  have hm : (Question.nanBits .f64 x y).cut t % 9223372036854775808 = 9218868437227405312 + 1 + q := by rw [hc]; omega
  unfold nanB Ieee.Format.read
  dsimp only
  rw [hs, hb, hi, hm]
  split
  · omega
  · split
    · omega
    · split
      · omega
      · rfl

theorem nm_fres (op : BinOp) (w : World) (x y : Nat) : nm (fres op w x y) = fop op (nm x) (nm y) := by
  rw [← floatBits_fop]
  unfold fres
  cases h : floatBits op .f64 x y with
  | some r => exact nm_some (floatBits_nan h)
  | none => exact nm_none (nan_cut _ _ _)

section
variable {P : Program} (w : World)
theorem run_fop (op : BinOp) (t : TypeId) (x y : Nat) (h : op = .add ∨ op = .sub ∨ op = .mul ∨ op = .quo) : (binOp op t (.float .f64 x) (.float .f64 y)).run P w = .ok (.float .f64 (fres op w x y)) (w.drewN (fdr op x y)) := by
  cases hf : floatBits op .f64 x y with
  | some r =>
    rw [run_float_arith w op t .f64 x y r hf]
    unfold fres fdr; rw [hf]; rfl
  | none =>
    have hq : (Question.nanBits .f64 x y).forced = false := rfl
    unfold fres fdr
    rw [hf]
    unfold floatBits at hf
    rcases h with rfl | rfl | rfl | rfl <;> simp only at hf <;> simp [binOp, Op.floatArith, hf, hq] <;> rfl
theorem run_fadd (t : TypeId) (x y : Nat) : (binOp .add t (.float .f64 x) (.float .f64 y)).run P w = .ok (.float .f64 (fres .add w x y)) (w.drewN (fdr .add x y)) := run_fop w .add t x y (by simp)
theorem run_fsub (t : TypeId) (x y : Nat) : (binOp .sub t (.float .f64 x) (.float .f64 y)).run P w = .ok (.float .f64 (fres .sub w x y)) (w.drewN (fdr .sub x y)) := run_fop w .sub t x y (by simp)
theorem run_fmul (t : TypeId) (x y : Nat) : (binOp .mul t (.float .f64 x) (.float .f64 y)).run P w = .ok (.float .f64 (fres .mul w x y)) (w.drewN (fdr .mul x y)) := run_fop w .mul t x y (by simp)
theorem run_fquo (t : TypeId) (x y : Nat) : (binOp .quo t (.float .f64 x) (.float .f64 y)).run P w = .ok (.float .f64 (fres .quo w x y)) (w.drewN (fdr .quo x y)) := run_fop w .quo t x y (by simp)
end

theorem order_self {x : Nat} (h : nanB x = false) : FloatKind.f64.format.order x x = some .eq := by
  unfold nanB at h
  show (Ieee.double.read x).order (Ieee.double.read x) = _
  cases e : Ieee.double.read x with
  | number s m i => simp only [Ieee.Datum.order, Option.some.injEq]; exact Std.ReflCmp.compare_self
  | infinity s => simp only [Ieee.Datum.order, Option.some.injEq]; exact Std.ReflCmp.compare_self
  | nan s f => rw [e] at h; cases h

theorem order_left {x y : Nat} (h : nanB x = true) : FloatKind.f64.format.order x y = none := by
  unfold nanB at h
  show (Ieee.double.read x).order (Ieee.double.read y) = _
  cases e : Ieee.double.read x with
  | nan s f => rfl
  | number s m i => rw [e] at h; cases h
  | infinity s => rw [e] at h; cases h

theorem order_right {x y : Nat} (h : nanB y = true) : FloatKind.f64.format.order x y = none := by
  unfold nanB at h
  show (Ieee.double.read x).order (Ieee.double.read y) = _
  cases e : Ieee.double.read y with
  | nan s f => cases Ieee.double.read x <;> rfl
  | number s m i => rw [e] at h; cases h
  | infinity s => rw [e] at h; cases h

/-- a is below b -/
def flt (a b : Option Nat) : Bool :=
  match a, b with
  | some x, some y => FloatKind.f64.format.order x y == some .lt
  | _, _ => false

theorem order_lt (x y : Nat) : (FloatKind.f64.format.order x y == some .lt) = flt (nm x) (nm y) := by
  cases hx : nanB x
  · cases hy : nanB y
    · rw [nm_some hx, nm_some hy]; rfl
    · rw [order_right hy, nm_none hy]; cases nm x <;> rfl
  · rw [order_left hx, nm_none hx]; rfl

end Go.Proofs.Ytligmokepafnbaj
