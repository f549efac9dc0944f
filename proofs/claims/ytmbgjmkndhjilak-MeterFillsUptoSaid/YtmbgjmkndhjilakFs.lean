/- What a line through two known ones shows, by the document's fractions. -/
import Derived.Test.YtmbgjmkndhjilakFr
namespace Go.Proofs.Ytmbgjmkndhjilak
open Go.RowKit Go.Shelf

def dropC : Nat → Code → Code
  | 0, c => c
  | n + 1, .seq _ b => dropC n b
  | _ + 1, c => c
def headC (n : Nat) (f : Func) : Code := match dropC n (f.body.getD .skip) with
  | .seq a _ => a
  | c => c
theorem QAt.nums {w : World} {b neg : Bool} {n d k c k' c' : Nat} {a a' : Option Addr} (h : QAt w (.agg #[.bool b, .slice a k c, .slice a' k' c']) neg n d) : Num w (.slice a k c) n ∧ Num w (.slice a' k' c') d := by
  obtain ⟨na, nk, nc, da, dk, dc, e, h1, h2⟩ := h
  simp only [Value.agg.injEq, Array.mk.injEq, List.cons.injEq, Value.bool.injEq, Value.slice.injEq] at e
  obtain ⟨_, ⟨rfl, rfl, rfl⟩, ⟨rfl, rfl, rfl⟩, _⟩ := e
  exact ⟨h1, h2⟩
theorem QAt.of {w : World} {b : Bool} {n d k c k' c' : Nat} {a a' : Option Addr} (h1 : Num w (.slice a k c) n) (h2 : Num w (.slice a' k' c') d) : QAt w (.agg #[.bool b, .slice a k c, .slice a' k' c']) b n d := ⟨a, k, c, a', k', c', rfl, h1, h2⟩
/-- Four cells of two rows. -/
def Four (bt ot bv ov i q0 q1 p0 p1 : Nat) (z : World) : Prop := z.cell? ⟨bt, ot + i, none⟩ = some (.int .i64 (q0 : Int)) ∧ z.cell? ⟨bt, ot + (i + 1), none⟩ = some (.int .i64 (q1 : Int)) ∧ z.cell? ⟨bv, ov + i, none⟩ = some (.int .i64 (p0 : Int)) ∧ z.cell? ⟨bv, ov + (i + 1), none⟩ = some (.int .i64 (p1 : Int))
def LQ1 (n1 d1 : Nat) (w : World) (p : Array Value → Nat → Prop) : Exit → Act → World → Prop := fun e a z => e = .normal ∧ ∃ (A fk fc gk gc : Nat) (fa ga : Option Addr), p a.tmps A ∧ a.defers = [] ∧ z.heap[A]? = some (.cells #[.bool false, .slice fa fk fc, .slice ga gk gc] 113 (0, 0)) ∧ QAt z (.agg #[.bool false, .slice fa fk fc, .slice ga gk gc]) false n1 d1 ∧ Below w.heap.size w z ∧ w.heap.size ≤ A
theorem nomL {n1 d1 : Nat} {w w' : World} {p : Array Value → Nat → Prop} {a a' : Act} {c : List PanicEntry} (h : LQ1 n1 d1 w p (.panic c) a w') : LQ1 n1 d1 w p (.panic c) a' w' := by
  obtain ⟨h, _⟩ := h
  cases h
set_option maxRecDepth 100000 in
set_option maxHeartbeats 4000000 in
theorem lineR1 {bt ot bv ov n ct cv i y p0 p1 q0 q1 n1 d1 : Nat} {w : World} (hin : i + 1 < n) (hn : n ≤ 50) (hp : p0 ≤ p1) (hp1 : p1 ≤ 4294967295) (hq : q0 < q1) (hq1 : q1 ≤ 1000000000) (_hy : q0 ≤ y) (_hy1 : y ≤ 1000000000) (hC : ∀ z, Below w.heap.size w z → Four bt ot bv ov i q0 q1 p0 p1 z) (hQD : ∀ z u v, QAt z u false (p1 - p0) 1 → QAt z v false (q1 - q0) 1 → Calls Try.prog 67 #[u, v] z (QR false n1 d1 z)) : Code.wp Try.prog (headC 1 Try.f61) (LQ1 n1 d1 w (fun t A => ∃ g11 g12 g13 g14 g15 g16 g17 g18 g19 g20 g21 g22 g23 g24 g25 g26 g27 g28 g29 g30 g31 g32 g33, t = #[.slice (some ⟨bt, ot, none⟩) n ct, .slice (some ⟨bv, ov, none⟩) n cv, .int .i64 (i : Int), .int .i64 (y : Int), undef, undef, undef, undef, .int .i64 0, .pointer (some ⟨A, 0, none⟩), undef, g11, g12, g13, g14, g15, g16, g17, g18, g19, g20, g21, g22, g23, g24, g25, g26, g27, g28, g29, g30, g31, g32, g33, undef, undef, undef, undef, undef, undef, undef, undef, undef, undef, undef, undef, undef, undef, undef, undef, undef, undef, undef, undef, undef])) ⟨#[.slice (some ⟨bt, ot, none⟩) n ct, .slice (some ⟨bv, ov, none⟩) n cv, .int .i64 (i : Int), .int .i64 (y : Int), undef, undef, undef, undef, .int .i64 0, undef, undef, undef, undef, undef, undef, undef, undef, undef, undef, undef, undef, undef, undef, undef, undef, undef, undef, undef, undef, undef, undef, undef, undef, undef, undef, undef, undef, undef, undef, undef, undef, undef, undef, undef, undef, undef, undef, undef, undef, undef, undef, undef, undef, undef, undef], []⟩ w := by
  have HC := hide' hC
  have HQD := hide' hQD
  have HI1 : Hid (IntKind.i64.wrap ((i : Int) + 1) = (i : Int) + 1) := wrap_ok (by omega)
  have HWV : Hid (IntKind.i64.wrap ((p1 : Int) - (p0 : Int)) = (p1 : Int) - (p0 : Int)) := wrap_ok (by omega)
  have HWT : Hid (IntKind.i64.wrap ((q1 : Int) - (q0 : Int)) = (q1 : Int) - (q0 : Int)) := wrap_ok (by omega)
  have HDV : Hid ((p1 : Int) - (p0 : Int) = ((p1 - p0 : Nat) : Int)) := by show _ = _; omega
  have HDT : Hid ((q1 : Int) - (q0 : Int) = ((q1 - q0 : Nat) : Int)) := by show _ = _; omega
  clear hC hQD
  conv => arg 2; whnf
  refine wp_region_tail (fun W' => Four bt ot bv ov i q0 q1 p0 p1 W') 24 (by kernel_rfl) ?_
  refine wpAnyT_letter (fun q => Hid ((Four bt ot bv ov i q0 q1 p0 p1 q) ∧ (Below w.heap.size w q) ∧ (True))) ⟨HC.out _ (Below.refl _ w).drew, (Below.refl _ w).drew, trivial⟩ ?_
  intro z H0
  refine wpAnyD_takeAt 0 (some 11) (v := ?_) rfl (by kernel_rfl) (by kernel_rfl) (by kernel_rfl) (by kernel_rfl) (by kernel_rfl) (fun _ _ _ h => nomL h) (by exact H0.out.1) (fun o hop => ?_) ?_
  rotate_left
  · injection hop with hop
    subst hop
    refine ⟨rfl, fun W' hW => ?_⟩
    obtain ⟨m0, m1, m2, m3⟩ := hW
    go_simp
    first
    | rfl
    | rw [if_pos (by omega)]
    | (constructor <;> rfl)
  try simp only [Act.put, List.setIfInBounds_toArray, List.set_cons_zero, List.set_cons_succ]
  refine wpAnyD_takeAt 1 (some 12) (v := ?_) rfl (by kernel_rfl) (by kernel_rfl) (by kernel_rfl) (by kernel_rfl) (by kernel_rfl) (fun _ _ _ h => nomL h) (by exact H0.out.1) (fun o hop => ?_) ?_
  rotate_left
  · injection hop with hop
    subst hop
    refine ⟨rfl, fun W' hW => ?_⟩
    obtain ⟨m0, m1, m2, m3⟩ := hW
    go_simp
    first
    | rfl
    | rw [if_pos (by omega)]
    | (constructor <;> rfl)
  try simp only [Act.put, List.setIfInBounds_toArray, List.set_cons_zero, List.set_cons_succ]
  refine wpAnyD_takeAt 2 (some 13) (v := .int .i64 ((i : Int) + 1)) rfl (by kernel_rfl) (by kernel_rfl) (by kernel_rfl) (by kernel_rfl) (by kernel_rfl) (fun _ _ _ h => nomL h) (by exact H0.out.1) (fun o hop => ?_) ?_
  · injection hop with hop
    subst hop
    refine ⟨rfl, fun W' hW => ?_⟩
    obtain ⟨m0, m1, m2, m3⟩ := hW
    go_simp
    first
    | rfl
    | exact HI1.out
    | rw [HI1.out]
    | (constructor <;> rfl)
  try simp only [Act.put, List.setIfInBounds_toArray, List.set_cons_zero, List.set_cons_succ]
  refine wpAnyD_takeAt 3 (some 14) (v := ?_) rfl (by kernel_rfl) (by kernel_rfl) (by kernel_rfl) (by kernel_rfl) (by kernel_rfl) (fun _ _ _ h => nomL h) (by exact H0.out.1) (fun o hop => ?_) ?_
  rotate_left
  · injection hop with hop
    subst hop
    refine ⟨rfl, fun W' hW => ?_⟩
    obtain ⟨m0, m1, m2, m3⟩ := hW
    go_simp
    first
    | rfl
    | rw [if_pos (by omega)]
    | (constructor <;> rfl)
  try simp only [Act.put, List.setIfInBounds_toArray, List.set_cons_zero, List.set_cons_succ]
  refine wpAnyD_takeAt 4 (some 15) (v := ?_) rfl (by kernel_rfl) (by kernel_rfl) (by kernel_rfl) (by kernel_rfl) (by kernel_rfl) (fun _ _ _ h => nomL h) (by exact H0.out.1) (fun o hop => ?_) ?_
  rotate_left
  · injection hop with hop
    subst hop
    refine ⟨rfl, fun W' hW => ?_⟩
    obtain ⟨m0, m1, m2, m3⟩ := hW
    go_simp
    first
    | rfl
    | rw [if_pos (by omega)]
    | (constructor <;> rfl)
  try simp only [Act.put, List.setIfInBounds_toArray, List.set_cons_zero, List.set_cons_succ]
  refine wpAnyD_takeAt 5 (some 16) (v := ?_) rfl (by kernel_rfl) (by kernel_rfl) (by kernel_rfl) (by kernel_rfl) (by kernel_rfl) (fun _ _ _ h => nomL h) (by exact H0.out.1) (fun o hop => ?_) ?_
  rotate_left
  · injection hop with hop
    subst hop
    refine ⟨rfl, fun W' hW => ?_⟩
    obtain ⟨m0, m1, m2, m3⟩ := hW
    go_simp
    first
    | rfl
    | rw [if_pos (by omega)]
    | (constructor <;> rfl)
  try simp only [Act.put, List.setIfInBounds_toArray, List.set_cons_zero, List.set_cons_succ]
  refine wpAnyD_takeAt 6 (some 17) (v := ?_) rfl (by kernel_rfl) (by kernel_rfl) (by kernel_rfl) (by kernel_rfl) (by kernel_rfl) (fun _ _ _ h => nomL h) (by exact H0.out.1) (fun o hop => ?_) ?_
  rotate_left
  · injection hop with hop
    subst hop
    refine ⟨rfl, fun W' hW => ?_⟩
    obtain ⟨m0, m1, m2, m3⟩ := hW
    go_simp
    first
    | rfl
    | rw [if_pos (by omega)]
    | (constructor <;> rfl)
  try simp only [Act.put, List.setIfInBounds_toArray, List.set_cons_zero, List.set_cons_succ]
  refine wpAnyD_takeAt 7 (some 18) (v := ?_) rfl (by kernel_rfl) (by kernel_rfl) (by kernel_rfl) (by kernel_rfl) (by kernel_rfl) (fun _ _ _ h => nomL h) (by exact H0.out.1) (fun o hop => ?_) ?_
  rotate_left
  · injection hop with hop
    subst hop
    refine ⟨rfl, fun W' hW => ?_⟩
    obtain ⟨m0, m1, m2, m3⟩ := hW
    go_simp
    first
    | rfl
    | rw [if_pos (by omega)]
    | (constructor <;> rfl)
  try simp only [Act.put, List.setIfInBounds_toArray, List.set_cons_zero, List.set_cons_succ]
  refine wpAnyD_takeAt 8 (some 19) (v := ?_) rfl (by kernel_rfl) (by kernel_rfl) (by kernel_rfl) (by kernel_rfl) (by kernel_rfl) (fun _ _ _ h => nomL h) (by exact H0.out.1) (fun o hop => ?_) ?_
  rotate_left
  · injection hop with hop
    subst hop
    refine ⟨rfl, fun W' hW => ?_⟩
    obtain ⟨m0, m1, m2, m3⟩ := hW
    go_simp
    first
    | rfl
    | rw [if_pos (by omega)]
    | (constructor <;> rfl)
  try simp only [Act.put, List.setIfInBounds_toArray, List.set_cons_zero, List.set_cons_succ]
  refine wpAnyD_takeAt 9 (some 20) (v := .int .i64 ((p1 : Int) - (p0 : Int))) rfl (by kernel_rfl) (by kernel_rfl) (by kernel_rfl) (by kernel_rfl) (by kernel_rfl) (fun _ _ _ h => nomL h) (by exact H0.out.1) (fun o hop => ?_) ?_
  · injection hop with hop
    subst hop
    refine ⟨rfl, fun W' hW => ?_⟩
    obtain ⟨m0, m1, m2, m3⟩ := hW
    go_simp
    first
    | rfl
    | exact HWV.out
    | rw [HWV.out]
    | (constructor <;> rfl)
  try simp only [Act.put, List.setIfInBounds_toArray, List.set_cons_zero, List.set_cons_succ]
  refine wpAnyD_takeAt 11 (some 22) (v := ?_) rfl (by kernel_rfl) (by kernel_rfl) (by kernel_rfl) (by kernel_rfl) (by kernel_rfl) (fun _ _ _ h => nomL h) (by exact H0.out.1) (fun o hop => ?_) ?_
  rotate_left
  · injection hop with hop
    subst hop
    refine ⟨rfl, fun W' hW => ?_⟩
    obtain ⟨m0, m1, m2, m3⟩ := hW
    go_simp
    first
    | rfl
    | rw [if_pos (by omega)]
    | (constructor <;> rfl)
  try simp only [Act.put, List.setIfInBounds_toArray, List.set_cons_zero, List.set_cons_succ]
  refine wpAnyD_takeAt 12 (some 23) (v := ?_) rfl (by kernel_rfl) (by kernel_rfl) (by kernel_rfl) (by kernel_rfl) (by kernel_rfl) (fun _ _ _ h => nomL h) (by exact H0.out.1) (fun o hop => ?_) ?_
  rotate_left
  · injection hop with hop
    subst hop
    refine ⟨rfl, fun W' hW => ?_⟩
    obtain ⟨m0, m1, m2, m3⟩ := hW
    go_simp
    first
    | rfl
    | rw [if_pos (by omega)]
    | (constructor <;> rfl)
  try simp only [Act.put, List.setIfInBounds_toArray, List.set_cons_zero, List.set_cons_succ]
  refine wpAnyD_takeAt 13 (some 24) (v := .int .i64 ((i : Int) + 1)) rfl (by kernel_rfl) (by kernel_rfl) (by kernel_rfl) (by kernel_rfl) (by kernel_rfl) (fun _ _ _ h => nomL h) (by exact H0.out.1) (fun o hop => ?_) ?_
  · injection hop with hop
    subst hop
    refine ⟨rfl, fun W' hW => ?_⟩
    obtain ⟨m0, m1, m2, m3⟩ := hW
    go_simp
    first
    | rfl
    | exact HI1.out
    | rw [HI1.out]
    | (constructor <;> rfl)
  try simp only [Act.put, List.setIfInBounds_toArray, List.set_cons_zero, List.set_cons_succ]
  refine wpAnyD_takeAt 14 (some 25) (v := ?_) rfl (by kernel_rfl) (by kernel_rfl) (by kernel_rfl) (by kernel_rfl) (by kernel_rfl) (fun _ _ _ h => nomL h) (by exact H0.out.1) (fun o hop => ?_) ?_
  rotate_left
  · injection hop with hop
    subst hop
    refine ⟨rfl, fun W' hW => ?_⟩
    obtain ⟨m0, m1, m2, m3⟩ := hW
    go_simp
    first
    | rfl
    | rw [if_pos (by omega)]
    | (constructor <;> rfl)
  try simp only [Act.put, List.setIfInBounds_toArray, List.set_cons_zero, List.set_cons_succ]
  refine wpAnyD_takeAt 15 (some 26) (v := ?_) rfl (by kernel_rfl) (by kernel_rfl) (by kernel_rfl) (by kernel_rfl) (by kernel_rfl) (fun _ _ _ h => nomL h) (by exact H0.out.1) (fun o hop => ?_) ?_
  rotate_left
  · injection hop with hop
    subst hop
    refine ⟨rfl, fun W' hW => ?_⟩
    obtain ⟨m0, m1, m2, m3⟩ := hW
    go_simp
    first
    | rfl
    | rw [if_pos (by omega)]
    | (constructor <;> rfl)
  try simp only [Act.put, List.setIfInBounds_toArray, List.set_cons_zero, List.set_cons_succ]
  refine wpAnyD_takeAt 16 (some 27) (v := ?_) rfl (by kernel_rfl) (by kernel_rfl) (by kernel_rfl) (by kernel_rfl) (by kernel_rfl) (fun _ _ _ h => nomL h) (by exact H0.out.1) (fun o hop => ?_) ?_
  rotate_left
  · injection hop with hop
    subst hop
    refine ⟨rfl, fun W' hW => ?_⟩
    obtain ⟨m0, m1, m2, m3⟩ := hW
    go_simp
    first
    | rfl
    | rw [if_pos (by omega)]
    | (constructor <;> rfl)
  try simp only [Act.put, List.setIfInBounds_toArray, List.set_cons_zero, List.set_cons_succ]
  refine wpAnyD_takeAt 17 (some 28) (v := ?_) rfl (by kernel_rfl) (by kernel_rfl) (by kernel_rfl) (by kernel_rfl) (by kernel_rfl) (fun _ _ _ h => nomL h) (by exact H0.out.1) (fun o hop => ?_) ?_
  rotate_left
  · injection hop with hop
    subst hop
    refine ⟨rfl, fun W' hW => ?_⟩
    obtain ⟨m0, m1, m2, m3⟩ := hW
    go_simp
    first
    | rfl
    | rw [if_pos (by omega)]
    | (constructor <;> rfl)
  try simp only [Act.put, List.setIfInBounds_toArray, List.set_cons_zero, List.set_cons_succ]
  refine wpAnyD_takeAt 18 (some 29) (v := ?_) rfl (by kernel_rfl) (by kernel_rfl) (by kernel_rfl) (by kernel_rfl) (by kernel_rfl) (fun _ _ _ h => nomL h) (by exact H0.out.1) (fun o hop => ?_) ?_
  rotate_left
  · injection hop with hop
    subst hop
    refine ⟨rfl, fun W' hW => ?_⟩
    obtain ⟨m0, m1, m2, m3⟩ := hW
    go_simp
    first
    | rfl
    | rw [if_pos (by omega)]
    | (constructor <;> rfl)
  try simp only [Act.put, List.setIfInBounds_toArray, List.set_cons_zero, List.set_cons_succ]
  refine wpAnyD_takeAt 19 (some 30) (v := ?_) rfl (by kernel_rfl) (by kernel_rfl) (by kernel_rfl) (by kernel_rfl) (by kernel_rfl) (fun _ _ _ h => nomL h) (by exact H0.out.1) (fun o hop => ?_) ?_
  rotate_left
  · injection hop with hop
    subst hop
    refine ⟨rfl, fun W' hW => ?_⟩
    obtain ⟨m0, m1, m2, m3⟩ := hW
    go_simp
    first
    | rfl
    | rw [if_pos (by omega)]
    | (constructor <;> rfl)
  try simp only [Act.put, List.setIfInBounds_toArray, List.set_cons_zero, List.set_cons_succ]
  refine wpAnyD_takeAt 20 (some 31) (v := .int .i64 ((q1 : Int) - (q0 : Int))) rfl (by kernel_rfl) (by kernel_rfl) (by kernel_rfl) (by kernel_rfl) (by kernel_rfl) (fun _ _ _ h => nomL h) (by exact H0.out.1) (fun o hop => ?_) ?_
  · injection hop with hop
    subst hop
    refine ⟨rfl, fun W' hW => ?_⟩
    obtain ⟨m0, m1, m2, m3⟩ := hW
    go_simp
    first
    | rfl
    | exact HWT.out
    | rw [HWT.out]
    | (constructor <;> rfl)
  try simp only [Act.put, List.setIfInBounds_toArray, List.set_cons_zero, List.set_cons_succ]
  refine wpAnyT_two (i := 10) (j := 23) (by kernel_rfl) rfl rfl rfl rfl (fun K' hK => ?_) (fun K' hK => ?_)
  · go_simp
    rw [HDV.out]
    go_at_call 68
    refine (Whole_any (p1 - p0) (by omega) _).mono ?_
    rintro e z1 hq
    obtain ⟨va, rfl, hnew, hb⟩ := hq.at
    clear hq
    have H1 : Hid ((Four bt ot bv ov i q0 q1 p0 p1 z1) ∧ (Below w.heap.size w z1) ∧ (True) ∧ (QAt z1 va false (p1 - p0) 1)) := ⟨HC.out _ ((H0.out.2.1).trans (hb.mono (H0.out.2.1).size)), H0.out.2.1.trans (hb.mono H0.out.2.1.size), trivial, hnew⟩
    refine hK.out _ _ (fun _ => H1.out.1) ?_
    clear hK K' hnew hb  H0
    try simp only [Act.put, List.setIfInBounds_toArray, List.set_cons_zero, List.set_cons_succ]
    refine wpAnyT_two (i := 21) (j := 23) (by kernel_rfl) rfl rfl rfl rfl (fun K' hK => ?_) (fun K' hK => ?_)
    · go_simp
      rw [HDT.out]
      go_at_call 68
      refine (Whole_any (q1 - q0) (by omega) _).mono ?_
      rintro e z2 hq
      obtain ⟨vb, rfl, hnew, hb⟩ := hq.at
      clear hq
      have H2 : Hid ((Four bt ot bv ov i q0 q1 p0 p1 z2) ∧ (Below w.heap.size w z2) ∧ (True) ∧ (QAt z2 va false (p1 - p0) 1) ∧ (QAt z2 vb false (q1 - q0) 1)) := ⟨HC.out _ ((H1.out.2.1).trans (hb.mono (H1.out.2.1).size)), H1.out.2.1.trans (hb.mono H1.out.2.1.size), trivial, (H1.out.2.2.2).below hb (Nat.le_refl _), hnew⟩
      refine hK.out _ _ (fun _ => H2.out.1) ?_
      clear hK K' hnew hb  H1
      try simp only [Act.put, List.setIfInBounds_toArray, List.set_cons_zero, List.set_cons_succ]
      refine wpAnyT_two (i := 22) (j := 23) (by kernel_rfl) rfl rfl rfl rfl (fun K' hK => ?_) (fun K' hK => ?_)
      · go_simp
        go_at_call 67
        refine (HQD.out _ _ _ H2.out.2.2.2.1 H2.out.2.2.2.2).mono ?_
        rintro e z3 hq
        obtain ⟨vc, rfl, ⟨fa, fk, fc, ga, gk, gc, rfl, hf1, hf2⟩, hb⟩ := hq.at
        have hnew := QAt.of (b := false) hf1 hf2
        clear hq
        have H3 : Hid ((Four bt ot bv ov i q0 q1 p0 p1 z3) ∧ (Below w.heap.size w z3) ∧ (True) ∧ (QAt z3 va false (p1 - p0) 1) ∧ (QAt z3 vb false (q1 - q0) 1) ∧ (QAt z3 (.agg #[.bool false, .slice fa fk fc, .slice ga gk gc]) false n1 d1)) := ⟨HC.out _ ((H2.out.2.1).trans (hb.mono (H2.out.2.1).size)), H2.out.2.1.trans (hb.mono H2.out.2.1.size), trivial, (H2.out.2.2.2.1).below hb (Nat.le_refl _), (H2.out.2.2.2.2).below hb (Nat.le_refl _), hnew⟩
        refine hK.out _ _ (fun _ => H3.out.1) ?_
        clear hK K' hnew hb hf1 hf2 H2
        try simp only [Act.put, List.setIfInBounds_toArray, List.set_cons_zero, List.set_cons_succ]
        refine wpAnyT_one (i := 23) (by kernel_rfl) rfl rfl (fun K' hK => ?_)
        go_simp
        obtain ⟨A, hAA⟩ : ∃ x, x = z3.heap.size := ⟨_, rfl⟩
        have hb := below_al z3 (.cells #[.bool false, .slice none 0 0, .slice none 0 0] 113)
        have hnw := alloc_new z3 (.cells #[.bool false, .slice none 0 0, .slice none 0 0] 113)
        rw [← hAA] at hnw
        obtain ⟨z4, hz2⟩ : ∃ x, x = z3.alloc (.cells #[.bool false, .slice none 0 0, .slice none 0 0] 113) := ⟨_, rfl⟩
        rw [← hz2] at hnw hb ⊢
        have H4 : Hid ((Four bt ot bv ov i q0 q1 p0 p1 z4) ∧ (Below w.heap.size w z4) ∧ (True) ∧ (QAt z4 va false (p1 - p0) 1) ∧ (QAt z4 vb false (q1 - q0) 1) ∧ (QAt z4 (.agg #[.bool false, .slice fa fk fc, .slice ga gk gc]) false n1 d1) ∧ (z4.heap[A]? = some (.cells #[.bool false, .slice none 0 0, .slice none 0 0] 113 (0, 0)) ∧ w.heap.size ≤ A)) := ⟨HC.out _ ((H3.out.2.1).trans (hb.mono (H3.out.2.1).size)), H3.out.2.1.trans (hb.mono H3.out.2.1.size), trivial, (H3.out.2.2.2.1).below hb (Nat.le_refl _), (H3.out.2.2.2.2.1).below hb (Nat.le_refl _), (H3.out.2.2.2.2.2).below hb (Nat.le_refl _), ⟨hnw, by rw [hAA]; exact H3.out.2.1.size⟩⟩
        rw [← hAA]
        refine hK.out _ _ (fun _ => H4.out.1) ?_
        clear hK K' hnw hb hz2 hAA H3
        try simp only [Act.put, List.setIfInBounds_toArray, List.set_cons_zero, List.set_cons_succ]
        have HNE := hide' H4.out.2.2.2.2.2.2.2
        have HNU := hide' (H4.out.2.2.2.2.2.1).nums
        have HEz := hide' (H4.out.2.2.2.2.2.2.1)
        have b0 : z4.cell? ⟨A, 0, none⟩ = some (.bool false) := (cells_at HEz.out 0).trans rfl
        have b1 : z4.cell? ⟨A, 1, none⟩ = some (.slice none 0 0) := (cells_at HEz.out 1).trans rfl
        have b2 : z4.cell? ⟨A, 2, none⟩ = some (.slice none 0 0) := (cells_at HEz.out 2).trans rfl
        have e0 : z4.frozen? ⟨A, 0, none⟩ = false := frozen_no HEz.out _
        have e1 : z4.frozen? ⟨A, 1, none⟩ = false := frozen_no HEz.out _
        have e2 : z4.frozen? ⟨A, 2, none⟩ = false := frozen_no HEz.out _
        have HP := hide' (put3 HEz.out (.bool false) (.slice fa fk fc) (.slice ga gk gc))
        have HFN : Hid (Num (((z4.setCell ⟨A, 0, none⟩ (.bool false)).setCell ⟨A, 1, none⟩ (.slice fa fk fc)).setCell ⟨A, 2, none⟩ (.slice ga gk gc)) (.slice fa fk fc) n1 ∧ Num (((z4.setCell ⟨A, 0, none⟩ (.bool false)).setCell ⟨A, 1, none⟩ (.slice fa fk fc)).setCell ⟨A, 2, none⟩ (.slice ga gk gc)) (.slice ga gk gc) d1 ∧ Below w.heap.size w (((z4.setCell ⟨A, 0, none⟩ (.bool false)).setCell ⟨A, 1, none⟩ (.slice fa fk fc)).setCell ⟨A, 2, none⟩ (.slice ga gk gc))) := ⟨(HNU.out.1).but (noint HEz.out) HP.out.2, (HNU.out.2).but (noint HEz.out) HP.out.2, ((H4.out.2.1.setCell (p := ⟨A, 0, none⟩) HNE.out _).setCell (p := ⟨A, 1, none⟩) HNE.out _).setCell (p := ⟨A, 2, none⟩) HNE.out _⟩
        refine wpAnyT_one (i := 24) (by kernel_rfl) rfl rfl (fun K' hK => ?_)
        go_simp
        refine hK.out _ _ (fun h => absurd rfl h) ?_
        clear hK K'
        try simp only [Act.put, List.setIfInBounds_toArray, List.set_cons_zero, List.set_cons_succ]
        refine wpAnyT_done (by kernel_rfl) ?_ _
        exact ⟨rfl, A, _, _, _, _, _, _, ⟨_, _, _, _, _, _, _, _, _, _, _, _, _, _, _, _, _, _, _, _, _, _, _, rfl⟩, rfl, HP.out.1, QAt.of HFN.out.1 HFN.out.2.1, HFN.out.2.2, HNE.out⟩
      · go_simp
        obtain ⟨A, hAA⟩ : ∃ x, x = z2.heap.size := ⟨_, rfl⟩
        have hb := below_al z2 (.cells #[.bool false, .slice none 0 0, .slice none 0 0] 113)
        have hnw := alloc_new z2 (.cells #[.bool false, .slice none 0 0, .slice none 0 0] 113)
        rw [← hAA] at hnw
        obtain ⟨z5, hz2⟩ : ∃ x, x = z2.alloc (.cells #[.bool false, .slice none 0 0, .slice none 0 0] 113) := ⟨_, rfl⟩
        rw [← hz2] at hnw hb ⊢
        have H5 : Hid ((Four bt ot bv ov i q0 q1 p0 p1 z5) ∧ (Below w.heap.size w z5) ∧ (True) ∧ (QAt z5 va false (p1 - p0) 1) ∧ (QAt z5 vb false (q1 - q0) 1) ∧ (z5.heap[A]? = some (.cells #[.bool false, .slice none 0 0, .slice none 0 0] 113 (0, 0)) ∧ w.heap.size ≤ A)) := ⟨HC.out _ ((H2.out.2.1).trans (hb.mono (H2.out.2.1).size)), H2.out.2.1.trans (hb.mono H2.out.2.1.size), trivial, (H2.out.2.2.2.1).below hb (Nat.le_refl _), (H2.out.2.2.2.2).below hb (Nat.le_refl _), ⟨hnw, by rw [hAA]; exact H2.out.2.1.size⟩⟩
        rw [← hAA]
        refine hK.out _ _ (fun _ => H5.out.1) ?_
        clear hK K' hnw hb hz2 hAA H2
        try simp only [Act.put, List.setIfInBounds_toArray, List.set_cons_zero, List.set_cons_succ]
        refine wpAnyT_one (i := 22) (by kernel_rfl) rfl rfl (fun K' hK => ?_)
        go_simp
        go_at_call 67
        refine (HQD.out _ _ _ H5.out.2.2.2.1 H5.out.2.2.2.2.1).mono ?_
        rintro e z6 hq
        obtain ⟨vc, rfl, ⟨fa, fk, fc, ga, gk, gc, rfl, hf1, hf2⟩, hb⟩ := hq.at
        have hnew := QAt.of (b := false) hf1 hf2
        clear hq
        have H6 : Hid ((Four bt ot bv ov i q0 q1 p0 p1 z6) ∧ (Below w.heap.size w z6) ∧ (True) ∧ (QAt z6 va false (p1 - p0) 1) ∧ (QAt z6 vb false (q1 - q0) 1) ∧ (QAt z6 (.agg #[.bool false, .slice fa fk fc, .slice ga gk gc]) false n1 d1) ∧ (z6.heap[A]? = some (.cells #[.bool false, .slice none 0 0, .slice none 0 0] 113 (0, 0)) ∧ w.heap.size ≤ A)) := ⟨HC.out _ ((H5.out.2.1).trans (hb.mono (H5.out.2.1).size)), H5.out.2.1.trans (hb.mono H5.out.2.1.size), trivial, (H5.out.2.2.2.1).below hb (Nat.le_refl _), (H5.out.2.2.2.2.1).below hb (Nat.le_refl _), hnew, ⟨(hb.block A (ltF H5.out.2.2.2.2.2.1)).trans H5.out.2.2.2.2.2.1, H5.out.2.2.2.2.2.2⟩⟩
        refine hK.out _ _ (fun _ => H6.out.1) ?_
        clear hK K' hnew hb hf1 hf2 H5
        try simp only [Act.put, List.setIfInBounds_toArray, List.set_cons_zero, List.set_cons_succ]
        have HNE := hide' H6.out.2.2.2.2.2.2.2
        have HNU := hide' (H6.out.2.2.2.2.2.1).nums
        have HEz := hide' (H6.out.2.2.2.2.2.2.1)
        have b0 : z6.cell? ⟨A, 0, none⟩ = some (.bool false) := (cells_at HEz.out 0).trans rfl
        have b1 : z6.cell? ⟨A, 1, none⟩ = some (.slice none 0 0) := (cells_at HEz.out 1).trans rfl
        have b2 : z6.cell? ⟨A, 2, none⟩ = some (.slice none 0 0) := (cells_at HEz.out 2).trans rfl
        have e0 : z6.frozen? ⟨A, 0, none⟩ = false := frozen_no HEz.out _
        have e1 : z6.frozen? ⟨A, 1, none⟩ = false := frozen_no HEz.out _
        have e2 : z6.frozen? ⟨A, 2, none⟩ = false := frozen_no HEz.out _
        have HP := hide' (put3 HEz.out (.bool false) (.slice fa fk fc) (.slice ga gk gc))
        have HFN : Hid (Num (((z6.setCell ⟨A, 0, none⟩ (.bool false)).setCell ⟨A, 1, none⟩ (.slice fa fk fc)).setCell ⟨A, 2, none⟩ (.slice ga gk gc)) (.slice fa fk fc) n1 ∧ Num (((z6.setCell ⟨A, 0, none⟩ (.bool false)).setCell ⟨A, 1, none⟩ (.slice fa fk fc)).setCell ⟨A, 2, none⟩ (.slice ga gk gc)) (.slice ga gk gc) d1 ∧ Below w.heap.size w (((z6.setCell ⟨A, 0, none⟩ (.bool false)).setCell ⟨A, 1, none⟩ (.slice fa fk fc)).setCell ⟨A, 2, none⟩ (.slice ga gk gc))) := ⟨(HNU.out.1).but (noint HEz.out) HP.out.2, (HNU.out.2).but (noint HEz.out) HP.out.2, ((H6.out.2.1.setCell (p := ⟨A, 0, none⟩) HNE.out _).setCell (p := ⟨A, 1, none⟩) HNE.out _).setCell (p := ⟨A, 2, none⟩) HNE.out _⟩
        refine wpAnyT_one (i := 24) (by kernel_rfl) rfl rfl (fun K' hK => ?_)
        go_simp
        refine hK.out _ _ (fun h => absurd rfl h) ?_
        clear hK K'
        try simp only [Act.put, List.setIfInBounds_toArray, List.set_cons_zero, List.set_cons_succ]
        refine wpAnyT_done (by kernel_rfl) ?_ _
        exact ⟨rfl, A, _, _, _, _, _, _, ⟨_, _, _, _, _, _, _, _, _, _, _, _, _, _, _, _, _, _, _, _, _, _, _, rfl⟩, rfl, HP.out.1, QAt.of HFN.out.1 HFN.out.2.1, HFN.out.2.2, HNE.out⟩
    · go_simp
      obtain ⟨A, hAA⟩ : ∃ x, x = z1.heap.size := ⟨_, rfl⟩
      have hb := below_al z1 (.cells #[.bool false, .slice none 0 0, .slice none 0 0] 113)
      have hnw := alloc_new z1 (.cells #[.bool false, .slice none 0 0, .slice none 0 0] 113)
      rw [← hAA] at hnw
      obtain ⟨z7, hz2⟩ : ∃ x, x = z1.alloc (.cells #[.bool false, .slice none 0 0, .slice none 0 0] 113) := ⟨_, rfl⟩
      rw [← hz2] at hnw hb ⊢
      have H7 : Hid ((Four bt ot bv ov i q0 q1 p0 p1 z7) ∧ (Below w.heap.size w z7) ∧ (True) ∧ (QAt z7 va false (p1 - p0) 1) ∧ (z7.heap[A]? = some (.cells #[.bool false, .slice none 0 0, .slice none 0 0] 113 (0, 0)) ∧ w.heap.size ≤ A)) := ⟨HC.out _ ((H1.out.2.1).trans (hb.mono (H1.out.2.1).size)), H1.out.2.1.trans (hb.mono H1.out.2.1.size), trivial, (H1.out.2.2.2).below hb (Nat.le_refl _), ⟨hnw, by rw [hAA]; exact H1.out.2.1.size⟩⟩
      rw [← hAA]
      refine hK.out _ _ (fun _ => H7.out.1) ?_
      clear hK K' hnw hb hz2 hAA H1
      try simp only [Act.put, List.setIfInBounds_toArray, List.set_cons_zero, List.set_cons_succ]
      refine wpAnyT_one (i := 21) (by kernel_rfl) rfl rfl (fun K' hK => ?_)
      go_simp
      rw [HDT.out]
      go_at_call 68
      refine (Whole_any (q1 - q0) (by omega) _).mono ?_
      rintro e z8 hq
      obtain ⟨vb, rfl, hnew, hb⟩ := hq.at
      clear hq
      have H8 : Hid ((Four bt ot bv ov i q0 q1 p0 p1 z8) ∧ (Below w.heap.size w z8) ∧ (True) ∧ (QAt z8 va false (p1 - p0) 1) ∧ (QAt z8 vb false (q1 - q0) 1) ∧ (z8.heap[A]? = some (.cells #[.bool false, .slice none 0 0, .slice none 0 0] 113 (0, 0)) ∧ w.heap.size ≤ A)) := ⟨HC.out _ ((H7.out.2.1).trans (hb.mono (H7.out.2.1).size)), H7.out.2.1.trans (hb.mono H7.out.2.1.size), trivial, (H7.out.2.2.2.1).below hb (Nat.le_refl _), hnew, ⟨(hb.block A (ltF H7.out.2.2.2.2.1)).trans H7.out.2.2.2.2.1, H7.out.2.2.2.2.2⟩⟩
      refine hK.out _ _ (fun _ => H8.out.1) ?_
      clear hK K' hnew hb  H7
      try simp only [Act.put, List.setIfInBounds_toArray, List.set_cons_zero, List.set_cons_succ]
      refine wpAnyT_one (i := 22) (by kernel_rfl) rfl rfl (fun K' hK => ?_)
      go_simp
      go_at_call 67
      refine (HQD.out _ _ _ H8.out.2.2.2.1 H8.out.2.2.2.2.1).mono ?_
      rintro e z9 hq
      obtain ⟨vc, rfl, ⟨fa, fk, fc, ga, gk, gc, rfl, hf1, hf2⟩, hb⟩ := hq.at
      have hnew := QAt.of (b := false) hf1 hf2
      clear hq
      have H9 : Hid ((Four bt ot bv ov i q0 q1 p0 p1 z9) ∧ (Below w.heap.size w z9) ∧ (True) ∧ (QAt z9 va false (p1 - p0) 1) ∧ (QAt z9 vb false (q1 - q0) 1) ∧ (QAt z9 (.agg #[.bool false, .slice fa fk fc, .slice ga gk gc]) false n1 d1) ∧ (z9.heap[A]? = some (.cells #[.bool false, .slice none 0 0, .slice none 0 0] 113 (0, 0)) ∧ w.heap.size ≤ A)) := ⟨HC.out _ ((H8.out.2.1).trans (hb.mono (H8.out.2.1).size)), H8.out.2.1.trans (hb.mono H8.out.2.1.size), trivial, (H8.out.2.2.2.1).below hb (Nat.le_refl _), (H8.out.2.2.2.2.1).below hb (Nat.le_refl _), hnew, ⟨(hb.block A (ltF H8.out.2.2.2.2.2.1)).trans H8.out.2.2.2.2.2.1, H8.out.2.2.2.2.2.2⟩⟩
      refine hK.out _ _ (fun _ => H9.out.1) ?_
      clear hK K' hnew hb hf1 hf2 H8
      try simp only [Act.put, List.setIfInBounds_toArray, List.set_cons_zero, List.set_cons_succ]
      have HNE := hide' H9.out.2.2.2.2.2.2.2
      have HNU := hide' (H9.out.2.2.2.2.2.1).nums
      have HEz := hide' (H9.out.2.2.2.2.2.2.1)
      have b0 : z9.cell? ⟨A, 0, none⟩ = some (.bool false) := (cells_at HEz.out 0).trans rfl
      have b1 : z9.cell? ⟨A, 1, none⟩ = some (.slice none 0 0) := (cells_at HEz.out 1).trans rfl
      have b2 : z9.cell? ⟨A, 2, none⟩ = some (.slice none 0 0) := (cells_at HEz.out 2).trans rfl
      have e0 : z9.frozen? ⟨A, 0, none⟩ = false := frozen_no HEz.out _
      have e1 : z9.frozen? ⟨A, 1, none⟩ = false := frozen_no HEz.out _
      have e2 : z9.frozen? ⟨A, 2, none⟩ = false := frozen_no HEz.out _
      have HP := hide' (put3 HEz.out (.bool false) (.slice fa fk fc) (.slice ga gk gc))
      have HFN : Hid (Num (((z9.setCell ⟨A, 0, none⟩ (.bool false)).setCell ⟨A, 1, none⟩ (.slice fa fk fc)).setCell ⟨A, 2, none⟩ (.slice ga gk gc)) (.slice fa fk fc) n1 ∧ Num (((z9.setCell ⟨A, 0, none⟩ (.bool false)).setCell ⟨A, 1, none⟩ (.slice fa fk fc)).setCell ⟨A, 2, none⟩ (.slice ga gk gc)) (.slice ga gk gc) d1 ∧ Below w.heap.size w (((z9.setCell ⟨A, 0, none⟩ (.bool false)).setCell ⟨A, 1, none⟩ (.slice fa fk fc)).setCell ⟨A, 2, none⟩ (.slice ga gk gc))) := ⟨(HNU.out.1).but (noint HEz.out) HP.out.2, (HNU.out.2).but (noint HEz.out) HP.out.2, ((H9.out.2.1.setCell (p := ⟨A, 0, none⟩) HNE.out _).setCell (p := ⟨A, 1, none⟩) HNE.out _).setCell (p := ⟨A, 2, none⟩) HNE.out _⟩
      refine wpAnyT_one (i := 24) (by kernel_rfl) rfl rfl (fun K' hK => ?_)
      go_simp
      refine hK.out _ _ (fun h => absurd rfl h) ?_
      clear hK K'
      try simp only [Act.put, List.setIfInBounds_toArray, List.set_cons_zero, List.set_cons_succ]
      refine wpAnyT_done (by kernel_rfl) ?_ _
      exact ⟨rfl, A, _, _, _, _, _, _, ⟨_, _, _, _, _, _, _, _, _, _, _, _, _, _, _, _, _, _, _, _, _, _, _, rfl⟩, rfl, HP.out.1, QAt.of HFN.out.1 HFN.out.2.1, HFN.out.2.2, HNE.out⟩
  · go_simp
    obtain ⟨A, hAA⟩ : ∃ x, x = z.heap.size := ⟨_, rfl⟩
    have hb := below_al z (.cells #[.bool false, .slice none 0 0, .slice none 0 0] 113)
    have hnw := alloc_new z (.cells #[.bool false, .slice none 0 0, .slice none 0 0] 113)
    rw [← hAA] at hnw
    obtain ⟨z10, hz2⟩ : ∃ x, x = z.alloc (.cells #[.bool false, .slice none 0 0, .slice none 0 0] 113) := ⟨_, rfl⟩
    rw [← hz2] at hnw hb ⊢
    have H10 : Hid ((Four bt ot bv ov i q0 q1 p0 p1 z10) ∧ (Below w.heap.size w z10) ∧ (True) ∧ (z10.heap[A]? = some (.cells #[.bool false, .slice none 0 0, .slice none 0 0] 113 (0, 0)) ∧ w.heap.size ≤ A)) := ⟨HC.out _ ((H0.out.2.1).trans (hb.mono (H0.out.2.1).size)), H0.out.2.1.trans (hb.mono H0.out.2.1.size), trivial, ⟨hnw, by rw [hAA]; exact H0.out.2.1.size⟩⟩
    rw [← hAA]
    refine hK.out _ _ (fun _ => H10.out.1) ?_
    clear hK K' hnw hb hz2 hAA H0
    try simp only [Act.put, List.setIfInBounds_toArray, List.set_cons_zero, List.set_cons_succ]
    refine wpAnyT_one (i := 10) (by kernel_rfl) rfl rfl (fun K' hK => ?_)
    go_simp
    rw [HDV.out]
    go_at_call 68
    refine (Whole_any (p1 - p0) (by omega) _).mono ?_
    rintro e z11 hq
    obtain ⟨va, rfl, hnew, hb⟩ := hq.at
    clear hq
    have H11 : Hid ((Four bt ot bv ov i q0 q1 p0 p1 z11) ∧ (Below w.heap.size w z11) ∧ (True) ∧ (QAt z11 va false (p1 - p0) 1) ∧ (z11.heap[A]? = some (.cells #[.bool false, .slice none 0 0, .slice none 0 0] 113 (0, 0)) ∧ w.heap.size ≤ A)) := ⟨HC.out _ ((H10.out.2.1).trans (hb.mono (H10.out.2.1).size)), H10.out.2.1.trans (hb.mono H10.out.2.1.size), trivial, hnew, ⟨(hb.block A (ltF H10.out.2.2.2.1)).trans H10.out.2.2.2.1, H10.out.2.2.2.2⟩⟩
    refine hK.out _ _ (fun _ => H11.out.1) ?_
    clear hK K' hnew hb  H10
    try simp only [Act.put, List.setIfInBounds_toArray, List.set_cons_zero, List.set_cons_succ]
    refine wpAnyT_one (i := 21) (by kernel_rfl) rfl rfl (fun K' hK => ?_)
    go_simp
    rw [HDT.out]
    go_at_call 68
    refine (Whole_any (q1 - q0) (by omega) _).mono ?_
    rintro e z12 hq
    obtain ⟨vb, rfl, hnew, hb⟩ := hq.at
    clear hq
    have H12 : Hid ((Four bt ot bv ov i q0 q1 p0 p1 z12) ∧ (Below w.heap.size w z12) ∧ (True) ∧ (QAt z12 va false (p1 - p0) 1) ∧ (QAt z12 vb false (q1 - q0) 1) ∧ (z12.heap[A]? = some (.cells #[.bool false, .slice none 0 0, .slice none 0 0] 113 (0, 0)) ∧ w.heap.size ≤ A)) := ⟨HC.out _ ((H11.out.2.1).trans (hb.mono (H11.out.2.1).size)), H11.out.2.1.trans (hb.mono H11.out.2.1.size), trivial, (H11.out.2.2.2.1).below hb (Nat.le_refl _), hnew, ⟨(hb.block A (ltF H11.out.2.2.2.2.1)).trans H11.out.2.2.2.2.1, H11.out.2.2.2.2.2⟩⟩
    refine hK.out _ _ (fun _ => H12.out.1) ?_
    clear hK K' hnew hb  H11
    try simp only [Act.put, List.setIfInBounds_toArray, List.set_cons_zero, List.set_cons_succ]
    refine wpAnyT_one (i := 22) (by kernel_rfl) rfl rfl (fun K' hK => ?_)
    go_simp
    go_at_call 67
    refine (HQD.out _ _ _ H12.out.2.2.2.1 H12.out.2.2.2.2.1).mono ?_
    rintro e z13 hq
    obtain ⟨vc, rfl, ⟨fa, fk, fc, ga, gk, gc, rfl, hf1, hf2⟩, hb⟩ := hq.at
    have hnew := QAt.of (b := false) hf1 hf2
    clear hq
    have H13 : Hid ((Four bt ot bv ov i q0 q1 p0 p1 z13) ∧ (Below w.heap.size w z13) ∧ (True) ∧ (QAt z13 va false (p1 - p0) 1) ∧ (QAt z13 vb false (q1 - q0) 1) ∧ (QAt z13 (.agg #[.bool false, .slice fa fk fc, .slice ga gk gc]) false n1 d1) ∧ (z13.heap[A]? = some (.cells #[.bool false, .slice none 0 0, .slice none 0 0] 113 (0, 0)) ∧ w.heap.size ≤ A)) := ⟨HC.out _ ((H12.out.2.1).trans (hb.mono (H12.out.2.1).size)), H12.out.2.1.trans (hb.mono H12.out.2.1.size), trivial, (H12.out.2.2.2.1).below hb (Nat.le_refl _), (H12.out.2.2.2.2.1).below hb (Nat.le_refl _), hnew, ⟨(hb.block A (ltF H12.out.2.2.2.2.2.1)).trans H12.out.2.2.2.2.2.1, H12.out.2.2.2.2.2.2⟩⟩
    refine hK.out _ _ (fun _ => H13.out.1) ?_
    clear hK K' hnew hb hf1 hf2 H12
    try simp only [Act.put, List.setIfInBounds_toArray, List.set_cons_zero, List.set_cons_succ]
    have HNE := hide' H13.out.2.2.2.2.2.2.2
    have HNU := hide' (H13.out.2.2.2.2.2.1).nums
    have HEz := hide' (H13.out.2.2.2.2.2.2.1)
    have b0 : z13.cell? ⟨A, 0, none⟩ = some (.bool false) := (cells_at HEz.out 0).trans rfl
    have b1 : z13.cell? ⟨A, 1, none⟩ = some (.slice none 0 0) := (cells_at HEz.out 1).trans rfl
    have b2 : z13.cell? ⟨A, 2, none⟩ = some (.slice none 0 0) := (cells_at HEz.out 2).trans rfl
    have e0 : z13.frozen? ⟨A, 0, none⟩ = false := frozen_no HEz.out _
    have e1 : z13.frozen? ⟨A, 1, none⟩ = false := frozen_no HEz.out _
    have e2 : z13.frozen? ⟨A, 2, none⟩ = false := frozen_no HEz.out _
    have HP := hide' (put3 HEz.out (.bool false) (.slice fa fk fc) (.slice ga gk gc))
    have HFN : Hid (Num (((z13.setCell ⟨A, 0, none⟩ (.bool false)).setCell ⟨A, 1, none⟩ (.slice fa fk fc)).setCell ⟨A, 2, none⟩ (.slice ga gk gc)) (.slice fa fk fc) n1 ∧ Num (((z13.setCell ⟨A, 0, none⟩ (.bool false)).setCell ⟨A, 1, none⟩ (.slice fa fk fc)).setCell ⟨A, 2, none⟩ (.slice ga gk gc)) (.slice ga gk gc) d1 ∧ Below w.heap.size w (((z13.setCell ⟨A, 0, none⟩ (.bool false)).setCell ⟨A, 1, none⟩ (.slice fa fk fc)).setCell ⟨A, 2, none⟩ (.slice ga gk gc))) := ⟨(HNU.out.1).but (noint HEz.out) HP.out.2, (HNU.out.2).but (noint HEz.out) HP.out.2, ((H13.out.2.1.setCell (p := ⟨A, 0, none⟩) HNE.out _).setCell (p := ⟨A, 1, none⟩) HNE.out _).setCell (p := ⟨A, 2, none⟩) HNE.out _⟩
    refine wpAnyT_one (i := 24) (by kernel_rfl) rfl rfl (fun K' hK => ?_)
    go_simp
    refine hK.out _ _ (fun h => absurd rfl h) ?_
    clear hK K'
    try simp only [Act.put, List.setIfInBounds_toArray, List.set_cons_zero, List.set_cons_succ]
    refine wpAnyT_done (by kernel_rfl) ?_ _
    exact ⟨rfl, A, _, _, _, _, _, _, ⟨_, _, _, _, _, _, _, _, _, _, _, _, _, _, _, _, _, _, _, _, _, _, _, rfl⟩, rfl, HP.out.1, QAt.of HFN.out.1 HFN.out.2.1, HFN.out.2.2, HNE.out⟩
end Go.Proofs.Ytmbgjmkndhjilak
