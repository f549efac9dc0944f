/- What search and schedule are to answer. -/
import Derived.Test.YtlbeecjkfakkpagEl
import Derived.Test.YtlbeecjkfakkpagEm
namespace Go.Proofs.Ytlbeecjkfakkpag
open Go.RowKit Go.Shelf Go.ChangeMaps

/-- What search is to answer. -/
def SearchGood (us : List UnitM) (need spare : List Int) : Prop :=
  ∀ (d : Array Nat) (lv : Value) (ar an as' : Option Addr) (cr cn cs : Nat) (W : World), UnitsAt W lv us → RowAt W (.slice ar us.length cr) us.length 1 (ints (natsI d)) → Rk (costN us) us.length us.length d → RowAt W (.slice an need.length cn) need.length 1 (ints need) → RowAt W (.slice as' need.length cs) need.length 1 (ints spare) →
    Calls Try.prog 53 #[.agg #[lv, .slice ar us.length cr, .slice an need.length cn, .slice as' need.length cs]] W fun e W' =>
      ∃ cv uv M, e = .returned (.agg #[lv, .slice ar us.length cr, .slice an need.length cn, .slice as' need.length cs, cv, uv, .map (some M)]) ∧ Srch W' us need spare lv cv uv M ∧ W.heap.size ≤ M ∧ Below W.heap.size W W'
/-- What schedule is to answer. -/
def ScheduleGood (us : List UnitM) (need spare : List Int) : Prop :=
  ∀ (lv cv uv : Value) (ar an as' : Option Addr) (nr cr cn ns cs M : Nat) (W : World), (∃ p, look us need spare need.length 0 (staysL us) = some p) → Srch W us need spare lv cv uv M →
    Calls Try.prog 55 #[.agg #[lv, .slice ar nr cr, .slice an need.length cn, .slice as' ns cs, cv, uv, .map (some M)], momT 0 (staysL us)] W fun e W' =>
      ∃ v, e = .returned v ∧ SignsAt W' v (planL us need spare need.length 0 (staysL us)) ∧ But M W W'
theorem ahead_all (us : List UnitM) (need spare : List Int) (hp : Plan us need spare) : ∀ d, AheadGood us need spare d
  | 0 => ahead_zero us need spare hp
  | d + 1 => ahead_succ us need spare d hp (ahead_all us need spare hp d)
/-- What best answers. -/
def BestO (us : List UnitM) (need spare : List Int) (W : World) (e : Ending) (W' : World) : Prop :=
  ((look us need spare need.length 0 (staysL us) = none ∧ e = .returned (.tuple #[.slice none 0 0, .int .i64 0, .int .i64 9])) ∨
   (∃ c k v, look us need spare need.length 0 (staysL us) = some (c, k) ∧ e = .returned (.tuple #[v, .int .i64 c, .int .i64 0]) ∧ SignsAt W' v (planL us need spare need.length 0 (staysL us)))) ∧ Below W.heap.size W W'
theorem But.belowOf {M : Nat} {W W1 W2 : World} (h : But M W1 W2) (h1 : Below W.heap.size W W1) (hM : W.heap.size ≤ M) : Below W.heap.size W W2 :=
  ⟨h.os.trans h1.os, h.tape.trans h1.tape, h.output.trans h1.output, Nat.le_trans h1.size h.size, fun k hk => (h.block k (Nat.lt_of_lt_of_le hk h1.size) (by omega)).trans (h1.block k hk)⟩
set_option maxRecDepth 100000 in
set_option maxHeartbeats 1000000 in
theorem best_any (us : List UnitM) (need spare : List Int) (hp : Plan us need spare) (HSG : SearchGood us need spare) (HSC : ScheduleGood us need spare) (d : Array Nat) (lv rv nv sv : Value) (W : World) (hx : UnitsAt W lv us) (hr : RowAt W rv us.length 1 (ints (natsI d))) (hd : Rk (costN us) us.length us.length d) (hn : RowAt W nv need.length 1 (ints need)) (hs : RowAt W sv need.length 1 (ints spare)) :
    Calls Try.prog 40 #[.agg #[lv, rv, nv, sv]] W (BestO us need spare W) := by
  obtain ⟨ag, cg, rfl⟩ := rowAt_slice hx
  obtain ⟨ar, cr, rfl⟩ := rowAt_slice hr
  obtain ⟨an, cn, rfl⟩ := rowAt_slice hn
  obtain ⟨as', cs, rfl⟩ := rowAt_slice hs
  have HG := hide' hx
  have HP := hide' hp
  have HA : Hid (∀ o, Below W.heap.size W (W.alloc o)) := fun o => (Below.refl _ W).alloc (Nat.le_refl _) o
  have HC1 : Hid (∀ o, Calls Try.prog 53 #[.agg #[.slice ag us.length cg, .slice ar us.length cr, .slice an need.length cn, .slice as' need.length cs]] (W.alloc o) fun e W' => ∃ cv uv M, e = .returned (.agg #[.slice ag us.length cg, .slice ar us.length cr, .slice an need.length cn, .slice as' need.length cs, cv, uv, .map (some M)]) ∧ Srch W' us need spare (.slice ag us.length cg) cv uv M ∧ (W.alloc o).heap.size ≤ M ∧ Below (W.alloc o).heap.size (W.alloc o) W') := fun o =>
    HSG d _ ar an as' cr cn cs (W.alloc o) (hx.below (HA.out o) (Nat.le_refl _)) (hr.below (HA.out o) (Nat.le_refl _)) hd (hn.below (HA.out o) (Nat.le_refl _)) (hs.below (HA.out o) (Nat.le_refl _))
  have hbx := alloc_new W (.cells #[.slice ag us.length cg, .slice ar us.length cr, .slice an need.length cn, .slice as' need.length cs] 64)
  obtain ⟨a, b, c, d', he⟩ := list4I (stand_len (t := staysL us) (by rw [staysL, List.length_map]; exact hp.h4))
  have HE := hide' he
  clear hx hr hd hn hs he
  go_enter Try.func40, Try.ntmps40
  go_wp2_with fail
  refine (HC1.out _).mono ?_
  rintro e w1 ⟨cv, uv, M, rfl, hsr, hM, hb1⟩
  obtain ⟨ac, nc, cc, rfl⟩ : ∃ a n c, cv = .slice a n c := by obtain ⟨a, c, h⟩ := hsr.cho.slice; exact ⟨_, _, _, h⟩
  obtain ⟨au, nu, cu, rfl⟩ : ∃ a n c, uv = .slice a n c := by obtain ⟨a, c, h⟩ := hsr.runs.slice; exact ⟨_, _, _, h⟩
  have HSR := hide' hsr
  have HB1 := hide' ((HA.out _).trans (hb1.mono (HA.out _).size))
  have HQ := hide' ((hb1.block W.heap.size (by simp)).trans hbx)
  have HM : Hid (W.heap.size < M ∧ M < w1.heap.size) := ⟨by simp at hM; omega, by obtain ⟨es, cl, hm, _⟩ := hsr.known; exact (Array.getElem?_eq_some_iff.1 hm).1⟩
  have HAL : Hid (∀ o, Below W.heap.size W (w1.alloc o)) := fun o => HB1.out.alloc HB1.out.size o
  have HC2 : Hid (∀ o, Calls Try.prog 50 #[.agg #[.slice ag us.length cg, .slice ar us.length cr]] (w1.alloc o) fun e w' => e = .returned (.agg #[.int .i64 a, .int .i64 b, .int .i64 c, .int .i64 d']) ∧ Below (w1.alloc o).heap.size (w1.alloc o) w') := fun o => by
    have := before_any us (.slice ag us.length cg) (.slice ar us.length cr) (w1.alloc o) (HG.out.below (HAL.out o) (Nat.le_refl _)) ⟨_, _, _, rfl⟩ HP.out.h4
    rw [HE.out] at this
    exact this
  have p0 : ∀ o, (w1.alloc o).cell? ⟨W.heap.size, 0, none⟩ = some (.slice ag us.length cg) := fun o => later (by simp [World.cell?, HQ.out]) o
  have p1 : ∀ o, (w1.alloc o).cell? ⟨W.heap.size, 1, none⟩ = some (.slice ar us.length cr) := fun o => later (by simp [World.cell?, HQ.out]) o
  have hbs := alloc_new w1 (.cells #[.slice ag us.length cg, .slice ar us.length cr, .slice an need.length cn, .slice as' need.length cs, .slice ac nc cc, .slice au nu cu, .map (some M)] 94)
  clear hsr hM hb1 hbx HC1
  go_wp2_with fail
  refine (HC2.out _).mono ?_
  rintro e w2 ⟨rfl, hb2⟩
  have HB2 := hide' ((HAL.out _).trans (hb2.mono (HAL.out _).size))
  have HS2 := hide' ((hb2.block w1.heap.size (by simp)).trans hbs)
  have HSR2 := hide' ((HSR.out.below ((Below.refl _ w1).alloc (Nat.le_refl _) _)).below hb2)
  clear hb2 hbs HC2 p0 p1
  have ss0 : ∀ o, (w2.alloc o).cell? ⟨w1.heap.size, 0, none⟩ = some (.slice ag us.length cg) := fun o => later (by simp [World.cell?, HS2.out]) o
  have ss1 : ∀ o, (w2.alloc o).cell? ⟨w1.heap.size, 1, none⟩ = some (.slice ar us.length cr) := fun o => later (by simp [World.cell?, HS2.out]) o
  have ss2 : ∀ o, (w2.alloc o).cell? ⟨w1.heap.size, 2, none⟩ = some (.slice an need.length cn) := fun o => later (by simp [World.cell?, HS2.out]) o
  have ss3 : ∀ o, (w2.alloc o).cell? ⟨w1.heap.size, 3, none⟩ = some (.slice as' need.length cs) := fun o => later (by simp [World.cell?, HS2.out]) o
  have ss4 : ∀ o, (w2.alloc o).cell? ⟨w1.heap.size, 4, none⟩ = some (.slice ac nc cc) := fun o => later (by simp [World.cell?, HS2.out]) o
  have ss5 : ∀ o, (w2.alloc o).cell? ⟨w1.heap.size, 5, none⟩ = some (.slice au nu cu) := fun o => later (by simp [World.cell?, HS2.out]) o
  have ss6 : ∀ o, (w2.alloc o).cell? ⟨w1.heap.size, 6, none⟩ = some (.map (some M)) := fun o => later (by simp [World.cell?, HS2.out]) o
  go_wp2_with fail
  clear ss0 ss1 ss2 ss3 ss4 ss5 ss6
  have HT3 := hide' (alloc_new w2 (.cells #[.int .i64 0, .int .i64 a, .int .i64 b, .int .i64 c, .int .i64 d'] 97))
  have HB3 : Hid (Below w2.heap.size w2 (w2.alloc (.cells #[.int .i64 0, .int .i64 a, .int .i64 b, .int .i64 c, .int .i64 d'] 97))) := (Below.refl _ w2).alloc (Nat.le_refl _) _
  have HS3 := hide' ((HB3.out.block w1.heap.size (Array.getElem?_eq_some_iff.1 HS2.out).1).trans HS2.out)
  have HSR3 := hide' (HSR2.out.below HB3.out)
  have HBW3 := hide' (HB2.out.trans (HB3.out.mono HB2.out.size))
  obtain ⟨S, hS⟩ : ∃ S, S = w1.heap.size := ⟨_, rfl⟩
  obtain ⟨T, hT⟩ : ∃ T, T = w2.heap.size := ⟨_, rfl⟩
  obtain ⟨w3, hw3⟩ : ∃ w3, w3 = w2.alloc (.cells #[.int .i64 0, .int .i64 a, .int .i64 b, .int .i64 c, .int .i64 d'] 97) := ⟨_, rfl⟩
  rw [← hw3] at HT3 HS3 HSR3 HBW3 ⊢
  rw [← hT] at HT3 ⊢
  rw [← hS] at HS3 ⊢
  have HNE : Hid (S ≠ M ∧ T ≠ M) := ⟨by have := HM.out; omega, by have := HM.out; have h1 := (Array.getElem?_eq_some_iff.1 HS2.out).1; omega⟩
  have HC3 : Hid (Calls Try.prog 54 #[.agg #[.slice ag us.length cg, .slice ar us.length cr, .slice an need.length cn, .slice as' need.length cs, .slice ac nc cc, .slice au nu cu, .map (some M)], .agg #[.int .i64 0, .int .i64 a, .int .i64 b, .int .i64 c, .int .i64 d']] w3 fun e W' => e = .returned (outV (look us need spare need.length 0 (staysL us))) ∧ But M w3 W' ∧ Srch W' us need spare (.slice ag us.length cg) (.slice ac nc cc) (.slice au nu cu) M) := by
    have := ahead_all us need spare HP.out need.length 0 (staysL us) _ _ _ ar an as' us.length cr cn need.length cs M w3 (by omega) (by rw [staysL, List.length_map]) (stays_ok HP.out.may) HSR3.out
    rw [momT_is HE.out] at this
    exact this
  have HM2 : Hid (W.heap.size ≤ M) := Nat.le_of_lt HM.out.1
  clear hS hT hw3 HS2 HSR2 HB2 HB3 HSR HB1 HQ HM HAL HA
  refine HC3.out.mono ?_
  rintro e w4 ⟨rfl, hb4, hs4⟩
  have HB4 := hide' (hb4.belowOf HBW3.out HM2.out)
  have HS4 := hide' ((hb4.block S (Array.getElem?_eq_some_iff.1 HS3.out).1 HNE.out.1).trans HS3.out)
  have HT4 := hide' ((hb4.block T (Array.getElem?_eq_some_iff.1 HT3.out).1 HNE.out.2).trans HT3.out)
  have HSR4 := hide' hs4
  clear hb4 hs4 HC3
  cases hlk : look us need spare need.length 0 (staysL us) with
  | none =>
    rw [show outV (none : Option (Int × Nat)) = .agg #[.int .i64 9223372036854775807, .int .i64 0] from rfl]
    have hf0 := fun w => field99 9223372036854775807 0 w
    have HL := hide' hlk
    clear hlk
    go_wp2
    refine bodyPost_ret (results_tmp3 rfl _ _ _) rfl ?_
    exact ⟨.inl ⟨HL.out, rfl⟩, HB4.out⟩
  | some o =>
    obtain ⟨co, ko⟩ := o
    have hcb := look_bound HP.out _ _ _ _ _ hlk
    have h8 := HP.out.h8
    have HL := hide' hlk
    have HC5 : Hid (Calls Try.prog 55 #[.agg #[.slice ag us.length cg, .slice ar us.length cr, .slice an need.length cn, .slice as' need.length cs, .slice ac nc cc, .slice au nu cu, .map (some M)], .agg #[.int .i64 0, .int .i64 a, .int .i64 b, .int .i64 c, .int .i64 d']] w4 fun e W' => ∃ v, e = .returned v ∧ SignsAt W' v (planL us need spare need.length 0 (staysL us)) ∧ But M w4 W') := by
      have := HSC _ _ _ ar an as' us.length cr cn need.length cs M w4 ⟨_, hlk⟩ HSR4.out
      rw [momT_is HE.out] at this
      exact this
    rw [show outV (some (co, ko)) = .agg #[.int .i64 co, .int .i64 ko] from rfl]
    have hf0 := fun w => field99 co ko w
    have hcne : (co == 9223372036854775807) = false := by simp; omega
    have ss0 : w4.cell? ⟨S, 0, none⟩ = some (.slice ag us.length cg) := by simp [World.cell?, HS4.out]
    have ss1 : w4.cell? ⟨S, 1, none⟩ = some (.slice ar us.length cr) := by simp [World.cell?, HS4.out]
    have ss2 : w4.cell? ⟨S, 2, none⟩ = some (.slice an need.length cn) := by simp [World.cell?, HS4.out]
    have ss3 : w4.cell? ⟨S, 3, none⟩ = some (.slice as' need.length cs) := by simp [World.cell?, HS4.out]
    have ss4 : w4.cell? ⟨S, 4, none⟩ = some (.slice ac nc cc) := by simp [World.cell?, HS4.out]
    have ss5 : w4.cell? ⟨S, 5, none⟩ = some (.slice au nu cu) := by simp [World.cell?, HS4.out]
    have ss6 : w4.cell? ⟨S, 6, none⟩ = some (.map (some M)) := by simp [World.cell?, HS4.out]
    have st0 : w4.cell? ⟨T, 0, none⟩ = some (.int .i64 0) := by simp [World.cell?, HT4.out]
    have st1 : w4.cell? ⟨T, 1, none⟩ = some (.int .i64 a) := by simp [World.cell?, HT4.out]
    have st2 : w4.cell? ⟨T, 2, none⟩ = some (.int .i64 b) := by simp [World.cell?, HT4.out]
    have st3 : w4.cell? ⟨T, 3, none⟩ = some (.int .i64 c) := by simp [World.cell?, HT4.out]
    have st4 : w4.cell? ⟨T, 4, none⟩ = some (.int .i64 d') := by simp [World.cell?, HT4.out]
    clear hlk
    go_wp2_with fail
    refine HC5.out.mono ?_
    rintro e w5 ⟨v, rfl, hsg, hb5⟩
    obtain ⟨av, cv', rfl⟩ := hsg.slice
    have HSGN := hide' hsg
    have HB5 := hide' (hb5.belowOf HB4.out HM2.out)
    clear hsg hb5 HC5 ss0 ss1 ss2 ss3 ss4 ss5 ss6 st0 st1 st2 st3 st4
    go_wp2
    refine bodyPost_ret (results_tmp3 rfl _ _ _) rfl ?_
    exact ⟨.inr ⟨co, ko, _, HL.out, rfl, HSGN.out⟩, HB5.out⟩
end Go.Proofs.Ytlbeecjkfakkpag
