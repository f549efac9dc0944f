/- Rows of whole currents: are all whole; what differs. -/
import Derived.Test.YtechhnifiahfpaaFx
namespace Go.Proofs.Ytechhnifiahfpaa
open Go.RowKit Go.Shelf

def cpx (c : Nat × Nat) : Value := .complex .f64 c.1 c.2
/-- Rows of bits that stand for rows of whole numbers, none too great. -/
structure AllC (cs : List (Nat × Nat)) (zs : List (Int × Int)) : Prop where
  len : cs.length = zs.length
  re : ∀ k, k < cs.length → Wh (cs.getD k (0, 0)).1 (zs.getD k (0, 0)).1
  im : ∀ k, k < cs.length → Wh (cs.getD k (0, 0)).2 (zs.getD k (0, 0)).2
  bd : ∀ k, (zs.getD k (0, 0)).1.natAbs ≤ 32768 ∧ (zs.getD k (0, 0)).2.natAbs ≤ 32768
theorem cpx_cell {w : World} {v : Value} {l : List (Nat × Nat)} (h : RowAt w v l.length 1 (l.map cpx)) (k : Nat) (hk : k < l.length) : ∃ b off c, v = .slice (some ⟨b, off, none⟩) l.length c ∧ w.cell? ⟨b, off + k, none⟩ = some (.complex .f64 (l.getD k (0, 0)).1 (l.getD k (0, 0)).2) := by
  obtain ⟨-, a, c, rfl, hc⟩ := h
  obtain ⟨b, off, rfl, hcell⟩ := hc k (cpx (l.getD k (0, 0))) (by rw [List.getElem?_map, List.getElem?_eq_getElem hk, List.getD_eq_getElem?_getD, List.getElem?_eq_getElem hk]; rfl)
  exact ⟨b, off, c, rfl, hcell⟩
theorem big_whole : Wh 4674736413210574848 32768 := wh_of 32768 (by decide)
theorem wh_myriad : Wh 4666723172467343360 10000 := wh_of 10000 (by decide)
theorem wh_nought : Wh 0 0 := wh_of 0 (by decide)
set_option maxRecDepth 100000 in
set_option maxHeartbeats 2000000 in
theorem areWhole_any (cs : List (Nat × Nat)) (zs : List (Int × Int)) (v : Value) (w : World) (hx : RowAt w v cs.length 1 (cs.map cpx)) (hn : cs.length ≤ 16) (hc : AllC cs zs) : Calls Try.prog 6 #[.float .f64 4674736413210574848, v] w fun e w' => e = .returned (.bool true) ∧ w' = w := by
  have HG := hide' hx
  have HC := hide' hc
  obtain ⟨ag, cg, rfl⟩ := rowAt_slice hx
  clear hx hc
  go_enter Try.func6, Try.ntmps6
  go_wp2_with fail
  go_loopw [9] (fun i wr => ∃ (k : Nat), i = .int .i64 k ∧ k ≤ cs.length ∧ wr = w) (fun i _ => cs.length - (intOf i).toNat)
  case atStart => exact ⟨0, rfl, Nat.zero_le _, rfl⟩
  case round =>
    obtain ⟨k, rfl, hk, hwr⟩ := hrel
    subst hwr
    by_cases hlt : k < cs.length
    · obtain ⟨bt, ot, ct', ex, hct⟩ := cpx_cell HG.out k hlt
      cases ex
      have hb := HC.out.bd k
      have H1 := hide' (fun z => isWhole_any big_whole (HC.out.re k hlt) (by omega) (by omega) z)
      have H2 := hide' (fun z => isWhole_any big_whole (HC.out.im k hlt) (by omega) (by omega) z)
      obtain ⟨x, hx⟩ : ∃ x, x = (cs.getD k (0, 0)).1 := ⟨_, rfl⟩
      obtain ⟨y, hy⟩ : ∃ y, y = (cs.getD k (0, 0)).2 := ⟨_, rfl⟩
      rw [← hx] at hct H1
      rw [← hy] at hct H2
      clear hx hy hb
      go_wp2_with fail
      refine (H1.out _).mono ?_
      rintro e w' ⟨rfl, rfl⟩
      go_wp2_with fail
      refine (H2.out _).mono ?_
      rintro e w' ⟨rfl, rfl⟩
      go_wp2
      go_roundw
      case rel => exact ⟨k + 1, by go_num, by omega, trivial⟩
      case measure => simp [intOf]; omega
    · go_wp2
      go_ret
      exact ⟨rfl, rfl⟩
theorem isUpTo_any (most x : Int) (h0 : 0 ≤ x) (h1 : x ≤ most) (w : World) : Calls Try.prog 7 #[.int .i64 most, .int .i64 x] w fun e w' => e = .returned (.bool true) ∧ w' = w := by
  go_enter Try.func7, Try.ntmps7
  go_wp2
  go_ret
  exact ⟨by first | rfl | simp [h0, h1], rfl⟩
/-- Sums of the first k, and the greatest square among them. -/
def sx (zs : List (Int × Int)) : Nat → Int
  | 0 => 0
  | k + 1 => sx zs k + (zs.getD k (0, 0)).1
def sy (zs : List (Int × Int)) : Nat → Int
  | 0 => 0
  | k + 1 => sy zs k + (zs.getD k (0, 0)).2
def sqr (z : Int × Int) : Int := z.1 * z.1 + z.2 * z.2
def gq (zs : List (Int × Int)) : Nat → Int
  | 0 => 0
  | k + 1 => max (gq zs k) (sqr (zs.getD k (0, 0)))
def diffB (zs : List (Int × Int)) (s p : Int) : Bool :=
  decide (s * s < sqr (sx zs zs.length, sy zs zs.length)) && decide (p * p * gq zs zs.length < 10000 * sqr (sx zs zs.length, sy zs zs.length))
theorem sx_bd {zs : List (Int × Int)} (h : ∀ k, (zs.getD k (0, 0)).1.natAbs ≤ 32768 ∧ (zs.getD k (0, 0)).2.natAbs ≤ 32768) (k : Nat) : (sx zs k).natAbs ≤ 32768 * k ∧ (sy zs k).natAbs ≤ 32768 * k := by
  induction k with
  | zero => exact ⟨Nat.zero_le _, Nat.zero_le _⟩
  | succ k ih => have := h k; simp only [sx, sy]; omega
theorem sq_bd {z : Int × Int} {m : Nat} (h1 : z.1.natAbs ≤ m) (h2 : z.2.natAbs ≤ m) : 0 ≤ sqr z ∧ sqr z ≤ 2 * (m * m : Nat) := by
  have a1 : (z.1 * z.1) = ((z.1.natAbs * z.1.natAbs : Nat) : Int) := Int.natAbs_mul_self.symm
  have a2 : (z.2 * z.2) = ((z.2.natAbs * z.2.natAbs : Nat) : Int) := Int.natAbs_mul_self.symm
  have b1 := Nat.mul_le_mul h1 h1
  have b2 := Nat.mul_le_mul h2 h2
  unfold sqr
  rw [a1, a2]
  omega
theorem gq_bd {zs : List (Int × Int)} (h : ∀ k, (zs.getD k (0, 0)).1.natAbs ≤ 32768 ∧ (zs.getD k (0, 0)).2.natAbs ≤ 32768) (k : Nat) : 0 ≤ gq zs k ∧ gq zs k ≤ 2147483648 := by
  induction k with
  | zero => simp [gq]
  | succ k ih =>
    have := sq_bd (h k).1 (h k).2
    simp only [gq]
    omega
theorem run_cadd {a b c d : Nat} {x y u v : Int} (ha : Wh a x) (hb : Wh b y) (hc : Wh c u) (hd : Wh d v) (h1 : (x + u).natAbs < 2 ^ 53) (h2 : (y + v).natAbs < 2 ^ 53) : ∃ p q, Wh p (x + u) ∧ Wh q (y + v) ∧ ∀ (w : World) (t : TypeId), (binOp .add t (.complex .f64 a b) (.complex .f64 c d)).run Try.prog w = .ok (.complex .f64 p q) w := by
  obtain ⟨p, hp, wp⟩ := wh_add ha hc h1
  obtain ⟨q, hq, wq⟩ := wh_add hb hd h2
  refine ⟨p, q, wp, wq, fun w t => run_complex_sum w .add (Or.inl rfl) t .f64 a b c d p q ?_⟩
  unfold cSumBits
  rw [hp, hq]
  rfl
theorem run_cmax {x y : Nat} {a b : Int} (hx : Wh x a) (hy : Wh y b) : ∃ r, Wh r (max a b) ∧ ∀ (w : World) (ts : Array TypeId) (t : TypeId), (Builtin.max_ ts t #[.float .f64 x, .float .f64 y]).run Try.prog w = .ok (.float .f64 r) w := by
  have ho : FloatKind.f64.format.order x y = some (compare a b) := wh_order hx hy
  rcases Int.lt_trichotomy a b with h | h | h
  · rw [Int.compare_eq_lt.2 h] at ho
    exact ⟨y, by rw [Int.max_eq_right (by omega)]; exact hy, fun w ts t => by simp [Builtin.max_, Builtin.max2, ho]⟩
  · rw [Int.compare_eq_eq.2 h] at ho
    subst h
    refine ⟨if (FloatKind.f64.decode x).neg then y else x, ?_, fun w ts t => by simp [Builtin.max_, Builtin.max2, ho]⟩
    rw [Int.max_self]
    split <;> assumption
  · rw [Int.compare_eq_gt.2 h] at ho
    exact ⟨x, by rw [Int.max_eq_left (by omega)]; exact hx, fun w ts t => by simp [Builtin.max_, Builtin.max2, ho]⟩
theorem gt_order {x y : Nat} {a b : Int} (hx : Wh x a) (hy : Wh y b) : (FloatKind.f64.format.order x y == some .gt) = decide (b < a) := by
  have ho : FloatKind.f64.format.order x y = some (compare a b) := wh_order hx hy
  rw [ho]
  rcases Int.lt_trichotomy a b with h | h | h
  · rw [Int.compare_eq_lt.2 h, decide_eq_false (by omega)]; rfl
  · rw [Int.compare_eq_eq.2 h, decide_eq_false (by omega)]; rfl
  · rw [Int.compare_eq_gt.2 h, decide_eq_true h]; rfl
end Go.Proofs.Ytechhnifiahfpaa
