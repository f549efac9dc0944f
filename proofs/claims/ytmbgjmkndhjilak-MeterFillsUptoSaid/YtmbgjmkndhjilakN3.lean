/- at: what a meter showed. -/
import Derived.Test.YtmbgjmkndhjilakN2
namespace Go.Proofs.Ytmbgjmkndhjilak
open Go.RowKit Go.Shelf

structure KnownOk (ts vs : List Int) : Prop where
  n1 : 1 ≤ ts.length
  n50 : ts.length ≤ 50
  same : vs.length = ts.length
  t : ∀ k, k < ts.length → 0 ≤ ts.getD k 0 ∧ ts.getD k 0 ≤ 1000000000
  v : ∀ k, k < ts.length → 0 ≤ vs.getD k 0 ∧ vs.getD k 0 ≤ 4294967295
  tr : ∀ k, k + 1 < ts.length → ts.getD k 0 < ts.getD (k + 1) 0
  vr : ∀ k, k + 1 < ts.length → vs.getD k 0 ≤ vs.getD (k + 1) 0
theorem rise_of {f : Nat → Int} {n : Nat} (h : ∀ k, k + 1 < n → f k ≤ f (k + 1)) (a : Nat) : ∀ d, a + d < n → f a ≤ f (a + d)
  | 0, _ => Int.le_refl _
  | d + 1, hd => Int.le_trans (rise_of h a d (by omega)) (h (a + d) (by omega))
theorem KnownOk.sorted {ts vs : List Int} (h : KnownOk ts vs) : Sorted ts := fun a b hab hb => by
  obtain ⟨d, rfl⟩ := Nat.exists_eq_add_of_le hab
  exact rise_of (f := fun k => ts.getD k 0) (fun k hk => Int.le_of_lt (h.tr k hk)) a d hb
theorem KnownOk.vsorted {ts vs : List Int} (h : KnownOk ts vs) (a b : Nat) (hab : a ≤ b) (hb : b < ts.length) : vs.getD a 0 ≤ vs.getD b 0 := by
  obtain ⟨d, rfl⟩ := Nat.exists_eq_add_of_le hab
  exact rise_of (f := fun k => vs.getD k 0) h.vr a d hb
/-- On the line through two, at most so much. -/
def lineV (vl vm tl tm x : Int) : Int := if 4294967295 < vl + (vm - vl) * (x - tl) / (tm - tl) then 4294967295 else vl + (vm - vl) * (x - tl) / (tm - tl)
def valP (ts vs : List Int) (p : Nat) (x : Int) : Int :=
  if p = 0 ∨ ts.length = 1 then vs.getD 0 0 else
    lineV (vs.getD (min p (ts.length - 1) - 1) 0) (vs.getD (min p (ts.length - 1)) 0) (ts.getD (min p (ts.length - 1) - 1) 0) (ts.getD (min p (ts.length - 1)) 0) x
def AtO (ts vs : List Int) (x : Int) (e : Ending) : Prop := ∃ p, AtP ts x p ∧ e = .returned (.int .i64 (valP ts vs p x))
theorem mul_bd {a b A B : Int} (h0 : 0 ≤ a) (h1 : a ≤ A) (h2 : 0 ≤ b) (h3 : b ≤ B) : 0 ≤ a * b ∧ a * b ≤ A * B := ⟨Int.mul_nonneg h0 h2, Int.mul_le_mul h1 h3 h2 (by omega)⟩
theorem div_bd {m d M : Int} (h0 : 0 ≤ m) (h1 : m ≤ M) (hd : 0 < d) : 0 ≤ m / d ∧ m / d ≤ M := ⟨Int.ediv_nonneg h0 (Int.le_of_lt hd), Int.le_trans (Int.ediv_le_self _ h0) h1⟩
theorem wrap_ok {x : Int} (h : -9223372036854775808 ≤ x ∧ x ≤ 9223372036854775807) : IntKind.i64.wrap x = x := Go.IntWalk.i64_in _ h
set_option maxRecDepth 100000 in
set_option maxHeartbeats 4000000 in
theorem at_any (ts vs : List Int) (x : Int) (u v : Value) (w : World) (hu : RowAt w u ts.length 1 (ints ts)) (hv : RowAt w v vs.length 1 (ints vs)) (ho : KnownOk ts vs) (hx0 : 0 ≤ x) (hx1 : x ≤ 1000000000) :
    Calls Try.prog 32 #[.agg #[u, v], .int .i64 x] w fun e w' => AtO ts vs x e ∧ Below w.heap.size w w' := by
  have HU := hide' hu
  have HV := hide' hv
  have HO := hide' ho
  have HSE : Hid (∀ W, Below w.heap.size w W → Calls Try.prog 60 #[u, .int .i64 x] W fun e w' => SearchO ts x e ∧ w' = W) := fun W hb => search_any ts x u W (hu.below hb (Nat.le_refl _)) (by have := ho.n50; omega) ho.sorted
  obtain ⟨au, cu, rfl⟩ := rowAt_slice hu
  obtain ⟨av, cv, rfl⟩ := rowAt_slice hv
  obtain ⟨n, hn'⟩ : ∃ n, n = ts.length := ⟨_, rfl⟩
  have HE := hide' hn'
  have hs := ho.same
  have hn1 := ho.n1
  have hn50 := ho.n50
  rw [hs] at HV ⊢
  rw [← hn'] at hn1 hn50 HU HV HSE ⊢
  have HES : Hid (vs.length = n) := by rw [hn']; exact hs
  clear hu hv ho hn' hs
  go_enter Try.func32, Try.ntmps32
  go_upto_region 1 with fail
  have HB := hide' (below_al w (.cells #[.slice au n cu, .slice av n cv] 67))
  have hq := alloc_new w (.cells #[.slice au n cu, .slice av n cv] 67)
  obtain ⟨w1, hw1⟩ : ∃ x, x = w.alloc (.cells #[.slice au n cu, .slice av n cv] 67) := ⟨_, rfl⟩
  rw [← hw1] at HB hq ⊢
  obtain ⟨K, hK⟩ : ∃ x, x = w.heap.size := ⟨_, rfl⟩
  rw [← hK] at hq
  rw [show (Value.pointer (some { block := w.heap.size, off := 0 })) = Value.pointer (some { block := K, off := 0 }) by rw [hK]]
  have y0 : w1.cell? ⟨K, 0, none⟩ = some (.slice au n cu) := (cells_at hq 0).trans rfl
  have y1 : w1.cell? ⟨K, 1, none⟩ = some (.slice av n cv) := (cells_at hq 1).trans rfl
  clear hq hw1 hK
  go_wp2_with fail
  refine (HSE.out w1 HB.out).mono ?_
  rintro e z ⟨⟨p, b, rfl, hP⟩, hz⟩
  obtain rfl := hz.symm
  have HP := hide' hP
  have hpn : p ≤ n := by rw [HE.out]; exact hP.le
  clear hP hz
  by_cases hp0 : (p : Int) = 0
  · have HR : Hid (valP ts vs p x = vs.getD 0 0) := by unfold valP; rw [if_pos (Or.inl (by omega))]; exact rfl
    obtain ⟨bt, ot, ct', ex, hct⟩ := ints_cell2 HV.out 0 (by rw [HES.out]; omega)
    simp only [Value.slice.injEq] at ex
    obtain ⟨rfl, _, rfl⟩ := ex
    have hc := up_cell HB.out hct
    obtain ⟨y, hy⟩ : ∃ y, y = vs.getD 0 0 := ⟨_, rfl⟩
    rw [← hy] at hc HR
    rw [Nat.add_zero] at hc
    clear hct hy
    go_wp2
    go_ret
    exact ⟨⟨p, HP.out, ret_int HR.out.symm⟩, HB.out⟩
  · by_cases hp1 : (n : Int) = 1
    · have HR : Hid (valP ts vs p x = vs.getD 0 0) := by unfold valP; rw [if_pos (Or.inr (by rw [← HE.out]; omega))]; exact rfl
      obtain ⟨bt, ot, ct', ex, hct⟩ := ints_cell2 HV.out 0 (by rw [HES.out]; omega)
      simp only [Value.slice.injEq] at ex
      obtain ⟨rfl, _, rfl⟩ := ex
      have hc := up_cell HB.out hct
      obtain ⟨y, hy⟩ : ∃ y, y = vs.getD 0 0 := ⟨_, rfl⟩
      rw [← hy] at hc HR
      rw [Nat.add_zero] at hc
      clear hct hy
      go_wp2
      go_ret
      exact ⟨⟨p, HP.out, ret_int HR.out.symm⟩, HB.out⟩
    · obtain ⟨m, hm⟩ : ∃ m, m = min p (n - 1) := ⟨_, rfl⟩
      obtain ⟨L, hL⟩ : ∃ L, L = m - 1 := ⟨_, rfl⟩
      have HR : Hid (valP ts vs p x = lineV (vs.getD L 0) (vs.getD m 0) (ts.getD L 0) (ts.getD m 0) x) := by unfold valP; rw [if_neg (by rw [← HE.out]; omega), ← HE.out, ← hm, ← hL]; exact rfl
      have hcase : ((n : Int) - 1 < p ∧ (n : Int) - 1 = m) ∨ (¬ ((n : Int) - 1 < p) ∧ p = m) := by omega
      have hwL : IntKind.i64.wrap ((m : Int) - 1) = (L : Int) := by rw [wrap_ok (by omega)]; omega
      have hmn : m < n := by omega
      have hLn : L < n := by omega
      have hLm : L + 1 = m := by omega
      have b1 := HO.out.t L (by rw [← HE.out]; exact hLn)
      have b2 := HO.out.t m (by rw [← HE.out]; exact hmn)
      have b3 := HO.out.v L (by rw [← HE.out]; exact hLn)
      have b4 := HO.out.v m (by rw [← HE.out]; exact hmn)
      have b5 := HO.out.tr L (by rw [← HE.out, hLm]; exact hmn)
      have b6 := HO.out.vr L (by rw [← HE.out, hLm]; exact hmn)
      rw [hLm] at b5 b6
      have b7 : ts.getD L 0 < x := HP.out.lo L (by omega)
      obtain ⟨bt, ot, ct', ex, hct⟩ := ints_cell2 HV.out m (by rw [HES.out]; exact hmn)
      obtain ⟨bt2, ot2, ct2, ex2, hct2⟩ := ints_cell2 HV.out L (by rw [HES.out]; exact hLn)
      obtain ⟨bu, ou, cu', eu, huc⟩ := ints_cell2 HU.out m (by rw [← HE.out]; exact hmn)
      obtain ⟨bu2, ou2, cu2, eu2, huc2⟩ := ints_cell2 HU.out L (by rw [← HE.out]; exact hLn)
      simp only [Value.slice.injEq] at ex
      obtain ⟨rfl, _, rfl⟩ := ex
      simp only [Value.slice.injEq] at eu
      obtain ⟨rfl, _, rfl⟩ := eu
      simp only [Value.slice.injEq, Option.some.injEq, Addr.mk.injEq, and_true] at ex2 eu2
      obtain ⟨⟨rfl, rfl⟩, _, rfl⟩ := ex2
      obtain ⟨⟨rfl, rfl⟩, _, rfl⟩ := eu2
      have d1 := up_cell HB.out hct
      have d2 := up_cell HB.out hct2
      have d3 := up_cell HB.out huc
      have d4 := up_cell HB.out huc2
      obtain ⟨vm, hvm⟩ : ∃ y, y = vs.getD m 0 := ⟨_, rfl⟩
      obtain ⟨vl, hvl⟩ : ∃ y, y = vs.getD L 0 := ⟨_, rfl⟩
      obtain ⟨tm, htm⟩ : ∃ y, y = ts.getD m 0 := ⟨_, rfl⟩
      obtain ⟨tl, htl⟩ : ∃ y, y = ts.getD L 0 := ⟨_, rfl⟩
      rw [← hvm] at d1 HR b4 b6
      rw [← hvl] at d2 HR b3 b6
      rw [← htm] at d3 HR b2 b5
      rw [← htl] at d4 HR b1 b5 b7
      have e1 := mul_bd (a := vm - vl) (b := x - tl) (A := 4294967295) (B := 1000000000) (by omega) (by omega) (by omega) (by omega)
      have w1' : IntKind.i64.wrap (vm - vl) = vm - vl := wrap_ok (by omega)
      have w2 : IntKind.i64.wrap (tm - tl) = tm - tl := wrap_ok (by omega)
      have w3 : IntKind.i64.wrap (x - tl) = x - tl := wrap_ok (by omega)
      have w4 : IntKind.i64.wrap ((vm - vl) * (x - tl)) = (vm - vl) * (x - tl) := wrap_ok (by omega)
      have t1 : Int.tdiv ((vm - vl) * (x - tl)) (tm - tl) = (vm - vl) * (x - tl) / (tm - tl) := Int.tdiv_eq_ediv_of_nonneg e1.1
      have e2 := div_bd e1.1 e1.2 (d := tm - tl) (by omega)
      have w5 : IntKind.i64.wrap ((vm - vl) * (x - tl) / (tm - tl)) = (vm - vl) * (x - tl) / (tm - tl) := wrap_ok (by omega)
      have w6 : IntKind.i64.wrap (vl + (vm - vl) * (x - tl) / (tm - tl)) = vl + (vm - vl) * (x - tl) / (tm - tl) := wrap_ok (by omega)
      have hne : tm - tl ≠ 0 := by omega
      have HBD : Hid (∀ q, Below w.heap.size w (w1.drewN q)) := fun q => below_drewN HB.out q
      unfold lineV at HR
      clear hct hct2 huc huc2 hvm hvl htm htl b1 b2 b3 b4 b5 b6 b7 e1 e2 hm hL
      have hb0 : ((p : Int) == 0) = false := by simpa using hp0
      have hb1 : ((n : Int) == 1) = false := by simpa using hp1
      rcases hcase with ⟨hl, hq⟩ | ⟨hl, hq⟩
      · go_upto_region 5 with fail
        try simp only [hq]
        clear hl hq
        go_wp2_with fail
        go_quiet (fail)
        go_wp2_with fail
        go_quiet (fail)
        go_wp2
        all_goals
          go_ret
          exact ⟨⟨p, HP.out, ret_int (by rw [HR.out]; split <;> omega)⟩, HBD.out _⟩
      · subst hq
        go_upto_region 5 with fail
        clear hl
        go_wp2_with fail
        go_quiet (fail)
        go_wp2_with fail
        go_quiet (fail)
        go_wp2
        all_goals
          go_ret
          exact ⟨⟨p, HP.out, ret_int (by rw [HR.out]; split <;> omega)⟩, HBD.out _⟩
end Go.Proofs.Ytmbgjmkndhjilak
