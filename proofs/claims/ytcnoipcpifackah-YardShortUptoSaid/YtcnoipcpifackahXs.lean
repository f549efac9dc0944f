/- Plan, in the program. -/
import Derived.Test.YtcnoipcpifackahXo
namespace Go.Proofs.Ytcnoipcpifackah
open Go.RowKit Go.Shelf

/-- What Plan answers. -/
def PlanAns (y : YardM) (goal : List Bool) (w : World) (e : Ending) (w' : World) : Prop :=
  ((mayYB y && soundB y) = false ∧ e = .returned (.tuple #[.slice none 0 0, .int .i64 14]) ∧ Below w.heap.size w w') ∨ ((mayYB y && soundB y) = true ∧ goal.length ≠ y.devs.length ∧ e = .returned (.tuple #[.slice none 0 0, .int .i64 2]) ∧ Below w.heap.size w w') ∨ ((mayYB y && soundB y) = true ∧ goal.length = y.devs.length ∧ PlanO y goal w e w')
set_option maxRecDepth 100000 in
set_option maxHeartbeats 4000000 in
theorem Plan_any (y : YardM) (goal : List Bool) (gv : Value) (af ad as' : Option Addr) (cf cd cs : Nat) (w : World) (hy : YardAt w af ad as' cf cd cs y) (hf : y.fed.length ≤ 9000000000000000000) (hd : y.drawn.length ≤ 9000000000000000000) (hs : y.devs.length ≤ 9000000000000000000) (hg : RowAt w gv goal.length 1 (goal.map Value.bool)) (_hgl : goal.length ≤ 9000000000000000000) :
    Calls Try.prog 11 #[.agg #[.int .i64 y.points, .slice af y.fed.length cf, .slice ad y.drawn.length cd, .slice as' y.devs.length cs], gv] w (PlanAns y goal w) := by
  obtain ⟨ga, gc, rfl⟩ := rowAt_slice hg
  have HSS : Hid (∀ w', Below w.heap.size w w' → Calls Try.prog 19 #[.agg #[.int .i64 y.points, .slice af y.fed.length cf, .slice ad y.drawn.length cd, .slice as' y.devs.length cs]] w' (StartO y af ad as' cf cd cs w')) := fun w' hb => startSound_any y af ad as' cf cd cs w' (hy.below hb (Nat.le_refl _)) hf hd hs
  have HPL : Hid (∀ w6 G cg L E D, (mayYB y && soundB y) = true → WorkB w6 w6 y ⟨af, ad, as', cf, cd, cs, G, cg, L, E, D⟩ → Below w.heap.size w w6 → goal.length = y.devs.length → Calls Try.prog 25 #[.agg #[.int .i64 y.points, .slice af y.fed.length cf, .slice ad y.drawn.length cd, .slice as' y.devs.length cs, .slice (some ⟨G, 0, none⟩) y.n cg, .slice (some ⟨L, 0, none⟩) y.n y.n, .slice (some ⟨E, 0, none⟩) y.n y.n, .slice (some ⟨D, 0, none⟩) y.n y.n], .slice ga goal.length gc] w6 (PlanO y goal w6)) := fun w6 G cg L E D hb hw hb6 hl => by
    obtain ⟨h1, h2⟩ := Bool.and_eq_true_iff.1 hb
    exact plan_any y (mayYB_iff.1 h1) h2 ⟨af, ad, as', cf, cd, cs, G, cg, L, E, D⟩ goal _ w6 hw (hg.below hb6 (Nat.le_refl _)) hl
  have HYY : Hid (∀ w', Below w.heap.size w w' → YardAt w' af ad as' cf cd cs y) := fun w' hb => hy.below hb (Nat.le_refl _)
  clear hy hg
  go_enter Try.func11, Try.ntmps11
  go_upto_region 1 with fail
  have hqA := alloc_new w (.cells #[.int .i64 y.points, .slice af y.fed.length cf, .slice ad y.drawn.length cd, .slice as' y.devs.length cs] 25)
  have hb1 := below_al w (.cells #[.int .i64 y.points, .slice af y.fed.length cf, .slice ad y.drawn.length cd, .slice as' y.devs.length cs] 25)
  obtain ⟨w1, hw1⟩ : ∃ x, x = (w.alloc (.cells #[.int .i64 y.points, .slice af y.fed.length cf, .slice ad y.drawn.length cd, .slice as' y.devs.length cs] 25)) := ⟨_, rfl⟩
  rw [← hw1] at hqA hb1 ⊢
  obtain ⟨A, hnA⟩ : ∃ x, x = w.heap.size := ⟨_, rfl⟩
  have HNE : Hid (w.heap.size ≤ A) := by show _ ≤ _; omega
  rw [← hnA] at hqA
  rw [show (Value.pointer (some { block := w.heap.size, off := 0 })) = Value.pointer (some { block := A, off := 0 }) by rw [hnA]]
  have HQA := hide' hqA
  have HB1 := hide' hb1
  clear hqA hb1 hw1 hnA
  have a0 : w1.cell? ⟨A, 0, none⟩ = some (.int .i64 y.points) := (cells_at HQA.out 0).trans rfl
  have a1 : w1.cell? ⟨A, 1, none⟩ = some (.slice af y.fed.length cf) := (cells_at HQA.out 1).trans rfl
  have a2 : w1.cell? ⟨A, 2, none⟩ = some (.slice ad y.drawn.length cd) := (cells_at HQA.out 2).trans rfl
  have a3 : w1.cell? ⟨A, 3, none⟩ = some (.slice as' y.devs.length cs) := (cells_at HQA.out 3).trans rfl
  go_wp2_with fail
  refine (HSS.out w1 HB1.out).mono ?_
  clear HSS
  rintro e w2 ⟨⟨hb0, rfl⟩ | ⟨hb0, G, cg, L, E, D, rfl, hwk⟩, hb2⟩
  · have HB2 := hide' (HB1.out.trans (hb2.mono HB1.out.size))
    have H0 := hide' hb0
    clear hb2 hb0
    unfold zero8
    go_wp2_with fail
    go_ret2
    exact .inl ⟨H0.out, rfl, HB2.out.alloc HB2.out.size _⟩
  · have HB2 := hide' (HB1.out.trans (hb2.mono HB1.out.size))
    have H0 := hide' hb0
    have HWK := hide' hwk
    have HA2 := hide' ((hb2.block A (lt_heap HQA.out)).trans HQA.out)
    clear hb2 hb0 hwk a0 a1 a2 a3
    unfold workV
    go_upto_region 2 with fail
    obtain ⟨S, hS⟩ : ∃ x, x = w2.heap.size := ⟨_, rfl⟩
    have hb3 := below_al w2 (.cells #[.int .i64 y.points, .slice af y.fed.length cf, .slice ad y.drawn.length cd, .slice as' y.devs.length cs, .slice (some ⟨G, 0, none⟩) y.n cg, .slice (some ⟨L, 0, none⟩) y.n y.n, .slice (some ⟨E, 0, none⟩) y.n y.n, .slice (some ⟨D, 0, none⟩) y.n y.n] 50)
    have hn3 := alloc_new w2 (.cells #[.int .i64 y.points, .slice af y.fed.length cf, .slice ad y.drawn.length cd, .slice as' y.devs.length cs, .slice (some ⟨G, 0, none⟩) y.n cg, .slice (some ⟨L, 0, none⟩) y.n y.n, .slice (some ⟨E, 0, none⟩) y.n y.n, .slice (some ⟨D, 0, none⟩) y.n y.n] 50)
    obtain ⟨w3, hw3⟩ : ∃ x, x = w2.alloc (.cells #[.int .i64 y.points, .slice af y.fed.length cf, .slice ad y.drawn.length cd, .slice as' y.devs.length cs, .slice (some ⟨G, 0, none⟩) y.n cg, .slice (some ⟨L, 0, none⟩) y.n y.n, .slice (some ⟨E, 0, none⟩) y.n y.n, .slice (some ⟨D, 0, none⟩) y.n y.n] 50) := ⟨_, rfl⟩
    rw [← hw3] at hb3 hn3 ⊢
    rw [← hS] at hn3 ⊢
    have HB3 := hide' (HB2.out.trans (hb3.mono HB2.out.size))
    have HN3 := hide' hn3
    have HWB : Hid (WorkB w3 w3 y ⟨af, ad, as', cf, cd, cs, G, cg, L, E, D⟩) := fun w9 hk hb9 => HWK.out w9 ((KeepX.below hb3 (Nat.le_refl _)).trans hk) (HYY.out w9 (HB3.out.trans (hb9.mono HB3.out.size)))
    have c3 : w3.cell? ⟨A, 3, none⟩ = some (.slice as' y.devs.length cs) := (cells_at ((hb3.block A (lt_heap HA2.out)).trans HA2.out) 3).trans rfl
    clear hb3 hn3 hw3 hS HWK HA2 HB2 HYY
    by_cases hl : goal.length = y.devs.length
    · have HPC := hide' (HPL.out w3 G cg L E D H0.out HWB.out HB3.out hl)
      have HLE := hide' hl
      have s0 : w3.cell? ⟨S, 0, none⟩ = some (.int .i64 y.points) := (cells_at HN3.out 0).trans rfl
      have s1 : w3.cell? ⟨S, 1, none⟩ = some (.slice af y.fed.length cf) := (cells_at HN3.out 1).trans rfl
      have s2 : w3.cell? ⟨S, 2, none⟩ = some (.slice ad y.drawn.length cd) := (cells_at HN3.out 2).trans rfl
      have s3 : w3.cell? ⟨S, 3, none⟩ = some (.slice as' y.devs.length cs) := (cells_at HN3.out 3).trans rfl
      have s4 : w3.cell? ⟨S, 4, none⟩ = some (.slice (some ⟨G, 0, none⟩) y.n cg) := (cells_at HN3.out 4).trans rfl
      have s5 : w3.cell? ⟨S, 5, none⟩ = some (.slice (some ⟨L, 0, none⟩) y.n y.n) := (cells_at HN3.out 5).trans rfl
      have s6 : w3.cell? ⟨S, 6, none⟩ = some (.slice (some ⟨E, 0, none⟩) y.n y.n) := (cells_at HN3.out 6).trans rfl
      have s7 : w3.cell? ⟨S, 7, none⟩ = some (.slice (some ⟨D, 0, none⟩) y.n y.n) := (cells_at HN3.out 7).trans rfl
      clear HPL
      rw [hl] at HPC ⊢
      clear hl
      go_wp2_with fail
      refine HPC.out.mono ?_
      clear HPC
      rintro e w4 ⟨⟨q, v, hq, rfl, hv⟩ | ⟨hq, rfl⟩, hb4⟩
      · have HQ := hide' hq
        have HV := hide' hv
        have HB4 := hide' (HB3.out.trans (hb4.mono HB3.out.size))
        clear hq hv hb4
        go_wp2_with fail
        go_ret2
        exact .inr (.inr ⟨H0.out, HLE.out, .inl ⟨q, v, HQ.out, rfl, own_mono HV.out HB3.out.size⟩, HB4.out⟩)
      · have HQ := hide' hq
        have HB4 := hide' (HB3.out.trans (hb4.mono HB3.out.size))
        clear hq hb4
        go_wp2_with fail
        go_ret2
        exact .inr (.inr ⟨H0.out, HLE.out, .inr ⟨HQ.out, rfl⟩, HB4.out⟩)
    · go_wp2_with fail
      go_ret2
      exact .inr (.inl ⟨H0.out, hl, rfl, HB3.out⟩)
end Go.Proofs.Ytcnoipcpifackah
