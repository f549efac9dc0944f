/- The small functions over whole floats. -/
import Derived.Test.YtechhnifiahfpaaFw
import Derived.Test.YtechhnifiahfpaaYb
import Derived.Laws.Externs
import Derived.Laws.Cover3
import Derived.Laws.BitsAllLaws
namespace Go.Proofs.Ytechhnifiahfpaa
open Go.RowKit Go.Shelf

theorem run_of {op : BinOp} {x y r : Nat} (h : floatBits op .f64 x y = some r) : ∀ (w : World) (t : TypeId), (binOp op t (.float .f64 x) (.float .f64 y)).run Try.prog w = .ok (.float .f64 r) w := fun w t => run_float_arith w op t .f64 x y r h
theorem frombits (b : Int) (w : World) : (callFunc 15 #[.int .u64 b]).run Try.prog w = .ok (.value (.float .f64 b.toNat)) w := by
  rw [run_callFunc_extern Try.func15 (by kernel_rfl) (by kernel_rfl) (by kernel_rfl) (e := Extern.MathFloatBits.float64frombits) (by kernel_rfl)]
  rfl
theorem tobits (b : Nat) (w : World) : (callFunc 16 #[.float .f64 b]).run Try.prog w = .ok (.value (.int .u64 b)) w := by
  rw [run_callFunc_extern Try.func16 (by kernel_rfl) (by kernel_rfl) (by kernel_rfl) (e := Extern.MathFloatBits.float64bits) (by kernel_rfl)]
  rfl
theorem archTrunc {x : Nat} {z : Int} (h : Wh x z) (w : World) : (callFunc 13 #[.float .f64 x]).run Try.prog w = .ok (.value (.float .f64 (FloatKind.f64.encode ((FloatKind.f64.decode x).integral .zero)))) w := by
  rw [run_callFunc_extern Try.func13 (by kernel_rfl) (by kernel_rfl) (by kernel_rfl) (e := Extern.MathFloor.toIntegral "math.archTrunc" .zero) (by kernel_rfl)]
  obtain ⟨s, m, e, hd⟩ := wh_num h
  have key : ∃ g h, Extern.MathFloor.toIntegral "math.archTrunc" .zero #[.float .f64 x] = Extern.MathFloor.toIntegral.match_1 (fun _ => Sem Value) (FloatKind.f64.decode x) g h ∧ ∀ d, h d = pure (Value.float .f64 (FloatKind.f64.encode (d.integral .zero))) := ⟨_, _, rfl, fun _ => rfl⟩
  obtain ⟨g, f, hk, hf⟩ := key
  rw [hk, hd]
  show ((f (.number s m e)).run Try.prog w).andThen _ = _
  rw [hf]
  rfl
theorem Trunc_any {x : Nat} {z : Int} (h : Wh x z) (hz : z.natAbs < 2 ^ 53) : ∃ r, Wh r z ∧ ∀ w : World, Calls Try.prog 11 #[.float .f64 x] w fun e w' => e = .returned (.float .f64 r) ∧ w' = w := by
  refine ⟨_, wh_trunc h hz, fun w => ?_⟩
  have ha := archTrunc h
  obtain ⟨r, hr⟩ : ∃ r, r = FloatKind.f64.encode ((FloatKind.f64.decode x).integral .zero) := ⟨_, rfl⟩
  rw [← hr] at ha ⊢
  clear hr
  go_enter Try.func11, Try.ntmps11
  go_wp2
  go_ret
  exact ⟨rfl, rfl⟩
theorem abs_bits (x : Nat) (h : x < 18446744073709551616) : bits .andNot .u64 (x : Int) 9223372036854775808 = ((x % 9223372036854775808 : Nat) : Int) := by
  have := u64_andNot_nat x 9223372036854775808 h (by decide)
  rw [show ((9223372036854775808 : Nat) : Int) = 9223372036854775808 from rfl] at this
  rw [this, show (18446744073709551615 - 9223372036854775808 : Nat) = 2 ^ 63 - 1 from rfl, Nat.and_two_pow_sub_one_eq_mod]
theorem Abs_any {x : Nat} {z : Int} (h : Wh x z) : ∃ r, Wh r (z.natAbs : Int) ∧ ∀ w : World, Calls Try.prog 12 #[.float .f64 x] w fun e w' => e = .returned (.float .f64 r) ∧ w' = w := by
  refine ⟨_, wh_abs h, fun w => ?_⟩
  have hb := abs_bits x h.1
  have h1 := tobits x
  have h2 := frombits ((x % 9223372036854775808 : Nat) : Int)
  rw [Int.toNat_natCast] at h2
  obtain ⟨r, hr⟩ : ∃ r, r = x % 9223372036854775808 := ⟨_, rfl⟩
  rw [← hr] at hb h2 ⊢
  clear hr h
  go_enter Try.func12, Try.ntmps12
  go_wp2
  go_ret
  exact ⟨rfl, rfl⟩
theorem square_any {a b : Nat} {x y : Int} (ha : Wh a x) (hb : Wh b y) (hx : x.natAbs ≤ 600000) (hy : y.natAbs ≤ 600000) : ∃ r, Wh r (x * x + y * y) ∧ ∀ w : World, Calls Try.prog 10 #[.complex .f64 a b] w fun e w' => e = .returned (.float .f64 r) ∧ w' = w := by
  have q1 : (x * x).natAbs ≤ 360000000000 := by rw [Int.natAbs_mul]; exact Nat.mul_le_mul hx hx
  have q2 : (y * y).natAbs ≤ 360000000000 := by rw [Int.natAbs_mul]; exact Nat.mul_le_mul hy hy
  obtain ⟨p, hp, wp⟩ := wh_mul ha ha (by omega)
  obtain ⟨q, hq, wq⟩ := wh_mul hb hb (by omega)
  obtain ⟨r, hr, wr⟩ := wh_add wp wq (by omega)
  refine ⟨r, wr, fun w => ?_⟩
  have h1 := run_of hp
  have h2 := run_of hq
  have h3 := run_of hr
  clear hp hq hr wp wq wr ha hb
  go_enter Try.func10, Try.ntmps10
  go_wp2
  go_ret
  exact ⟨rfl, rfl⟩
theorem le_order {x y : Nat} {a b : Int} (hx : Wh x a) (hy : Wh y b) (h : a ≤ b) : FloatKind.f64.format.order x y = some .lt ∨ FloatKind.f64.format.order x y = some .eq := by
  have := wh_order hx hy
  rw [show FloatKind.f64.format.order x y = _ from this]
  rcases Int.lt_or_eq_of_le h with h | h
  · left; rw [Int.compare_eq_lt.2 h]
  · right; rw [Int.compare_eq_eq.2 h]
theorem eq_order {x y : Nat} {a : Int} (hx : Wh x a) (hy : Wh y a) : FloatKind.f64.format.order x y = some .eq := by
  have := wh_order hx hy
  rw [show FloatKind.f64.format.order x y = _ from this, Int.compare_eq_eq.2 rfl]
theorem isWhole_any {most x : Nat} {M z : Int} (hm : Wh most M) (h : Wh x z) (hz : z.natAbs < 2 ^ 53) (hle : (z.natAbs : Int) ≤ M) (w : World) : Calls Try.prog 9 #[.float .f64 most, .float .f64 x] w fun e w' => e = .returned (.bool true) ∧ w' = w := by
  obtain ⟨t, wt, ht⟩ := Trunc_any h hz
  obtain ⟨a, wa, ha⟩ := Abs_any h
  have o1 := eq_order wt h
  rcases le_order wa hm hle with o2 | o2
  · clear wt wa hm h
    go_enter Try.func9, Try.ntmps9
    go_wp2_with fail
    refine (ht w).mono ?_
    rintro e w' ⟨rfl, rfl⟩
    go_wp2_with fail
    refine (ha _).mono ?_
    rintro e w' ⟨rfl, rfl⟩
    go_wp2
    go_ret
    exact ⟨by simp [*], rfl⟩
  · clear wt wa hm h
    go_enter Try.func9, Try.ntmps9
    go_wp2_with fail
    refine (ht w).mono ?_
    rintro e w' ⟨rfl, rfl⟩
    go_wp2_with fail
    refine (ha _).mono ?_
    rintro e w' ⟨rfl, rfl⟩
    go_wp2
    go_ret
    exact ⟨by simp [*], rfl⟩
end Go.Proofs.Ytechhnifiahfpaa
