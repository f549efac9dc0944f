/- Numbers as rows of digits: the contracts by numbers alone. -/
import Derived.Test.YtmbgjmkndhjilakFh
namespace Go.Proofs.Ytmbgjmkndhjilak
open Go.RowKit Go.Shelf

/-- A number that is not too great. -/
def Small (n : Nat) : Prop := n < 10000 ^ 100
theorem Num.short {w : World} {v : Value} {n : Nat} (h : Num w v n) (hn : Small n) : ∃ l, Canon l ∧ valN l = n ∧ RowAt w v l.length 1 (ints (dg l)) ∧ l.length ≤ 100 := by
  obtain ⟨l, h1, h2, h3⟩ := h
  exact ⟨l, h1, h2, h3, canon_short h1 (by rw [h2]; exact hn)⟩
theorem Small.le {m n : Nat} (h : Small n) (hm : m ≤ n) : Small m := Nat.lt_of_le_of_lt hm h
theorem natCmp_num {a b : Nat} {u v : Value} {w : World} (hu : Num w u a) (hv : Num w v b) (ha : Small a) (hb : Small b) : Calls Try.prog 79 #[u, v] w (CmpR (cmpN a b) w) := by
  obtain ⟨l, h1, rfl, h3, h4⟩ := hu.short ha
  obtain ⟨m, k1, rfl, k3, k4⟩ := hv.short hb
  exact natCmp_row l m h1 k1 u v w h3 k3 (by omega) (by omega)
theorem natAdd_num {a b : Nat} {u v : Value} {w : World} (hu : Num w u a) (hv : Num w v b) (ha : Small a) (hb : Small b) : Calls Try.prog 78 #[u, v] w (NumR (a + b) w) := by
  obtain ⟨l, h1, rfl, h3, h4⟩ := hu.short ha
  obtain ⟨m, k1, rfl, k3, k4⟩ := hv.short hb
  exact natAdd_row l m h1 k1 u v w h3 k3 (by omega) (by omega)
theorem natSub_num {a b : Nat} {u v : Value} {w : World} (hu : Num w u a) (hv : Num w v b) (ha : Small a) (hab : b ≤ a) : Calls Try.prog 80 #[u, v] w (NumF (a - b) w) := by
  obtain ⟨l, h1, rfl, h3, h4⟩ := hu.short ha
  obtain ⟨m, k1, rfl, k3, k4⟩ := hv.short (ha.le hab)
  exact natSub_row l m h1.dg k1 hab u v w h3 k3 (by omega) (by omega)
theorem natMul_num {a b : Nat} {u v : Value} {w : World} (hu : Num w u a) (hv : Num w v b) (ha : Small a) (hb : Small b) : Calls Try.prog 76 #[u, v] w (NumR (a * b) w) := by
  obtain ⟨l, h1, rfl, h3, h4⟩ := hu.short ha
  obtain ⟨m, k1, rfl, k3, k4⟩ := hv.short hb
  exact natMul_row l m h1.dg k1.dg u v w h3 k3 (by omega) (by omega)
theorem small_9 {n : Nat} (h : n ≤ 9223372036854775807) : Small n := by
  have h1 : (10000 : Nat) ^ 5 ≤ 10000 ^ 100 := Nat.pow_le_pow_right (by decide) (by decide)
  have h2 : (10000 : Nat) ^ 5 = 100000000000000000000 := by decide
  unfold Small
  omega
theorem Num.slice {w : World} {v : Value} {n : Nat} (h : Num w v n) : ∃ a k c, v = .slice a k c := by
  obtain ⟨l, _, _, h3⟩ := h
  obtain ⟨a, c, e⟩ := rowAt_slice h3
  exact ⟨a, _, c, e⟩
/-- A number's row is empty just where it is nought. -/
theorem Num.len {w : World} {a : Option Addr} {k c n : Nat} (h : Num w (.slice a k c) n) : (k = 0 ↔ n = 0) := by
  obtain ⟨l, h1, h2, h3⟩ := h
  obtain ⟨a', c', e⟩ := rowAt_slice h3
  cases e
  constructor
  · intro h0
    rw [List.eq_nil_of_length_eq_zero h0] at h2
    exact h2.symm
  · intro h0
    rw [canon_zero h1 (h2.trans h0)]
    rfl
set_option maxRecDepth 100000 in
set_option maxHeartbeats 4000000 in
theorem natScale_num {a : Nat} (m : Nat) {u : Value} {w : World} (hu : Num w u a) (ha : Small a) (hm : m ≤ 9999) : Calls Try.prog 87 #[u, .int .i64 (m : Int)] w (NumR (a * m) w) := by
  obtain ⟨ua, uk, uc, rfl⟩ := hu.slice
  have H1 := hide' (natOf_any m (by omega) w)
  have H2 : Hid (∀ w' v, Below w.heap.size w w' → Num w' v m → Calls Try.prog 76 #[.slice ua uk uc, v] w' (NumR (a * m) w')) := fun w' v hb hv => natMul_num (hu.below hb (Nat.le_refl _)) hv ha (small_9 (by omega))
  clear hu
  go_enter Try.func87, Try.ntmps87
  go_wp2_with fail
  refine H1.out.mono ?_
  rintro e w1 ⟨v1, rfl, hn1, hb1⟩
  obtain ⟨va, vk, vc, rfl⟩ := hn1.slice
  have H3 := hide' (H2.out w1 _ hb1 hn1)
  have HB := hide' hb1
  clear hn1 hb1 H1 H2
  go_wp2_with fail
  refine H3.out.mono ?_
  rintro e w2 hz
  obtain ⟨v2, hev, hz2⟩ := hz.mono HB.out
  subst hev
  have HZ := hide' hz2
  clear hz hz2 H3 HB
  go_wp2
  go_ret
  exact ⟨_, rfl, HZ.out⟩
end Go.Proofs.Ytmbgjmkndhjilak
