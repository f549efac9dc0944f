/- YardShort. -/
import Derived.Test.YtcnoipcpifackahUe
namespace Go.Proofs.Ytcnoipcpifackah
open Go.RowKit Go.Shelf

/-- The yard that is looked at first. -/
def two0 : YardM := ⟨3, [0], [2], [⟨1, 1, 2, false⟩, ⟨2, 0, 1, false⟩]⟩
theorem two_ok : (mayYB two0 && soundB two0) = true := by decide +kernel
theorem two_may : MayY two0 := mayYB_iff.1 (Bool.and_eq_true_iff.1 two_ok).1
theorem two_run : runK (leadF two0) two0.code [1, 0] = some (codeB [true, true]) := by decide +kernel
theorem two_no : ∀ b : Fin 2, runK (leadF two0) two0.code [0, b.1] ≠ some (codeB [true, true]) := by decide +kernel
theorem two_no1 : ∀ b : Fin 2, runK (leadF two0) two0.code [b.1] ≠ some (codeB [true, true]) := by decide +kernel
theorem two_no0 : runK (leadF two0) two0.code [] ≠ some (codeB [true, true]) := by decide +kernel
theorem run_small {y : YardM} (hm : MayY y) {c a : Nat} {r : List Nat} {g : Nat} (h : runK (leadF y) c (a :: r) = some g) : a < y.devs.length ∧ ∃ t, leadF y c a = some t ∧ runK (leadF y) t r = some g := by
  have h2 : (match leadF y c a with | some t => runK (leadF y) t r | none => none) = some g := h
  rcases hlf : leadF y c a with _ | t
  · rw [hlf] at h2; cases h2
  · rw [hlf] at h2
    exact ⟨(lead_some hm hlf).1, t, rfl, h2⟩
theorem two_best : BestP (leadF two0) two0.code (codeB [true, true]) [1, 0] := by
  refine ⟨two_run, fun q hq => ?_⟩
  match q, hq with
  | [], hq => exact absurd hq two_no0
  | [a], hq =>
    have h1 := (run_small two_may hq).1
    exact absurd hq (two_no1 ⟨a, h1⟩)
  | [a, b], hq =>
    obtain ⟨h1, t, _, h3⟩ := run_small two_may hq
    have h4 := (run_small two_may h3).1
    by_cases ha : a = 0
    · subst ha
      exact absurd hq (two_no ⟨b, h4⟩)
    · have ha1 : a = 1 := by
        have : a < 2 := h1
        omega
      subst ha1
      refine .inr ⟨rfl, .inr ⟨rfl, ?_⟩⟩
      rcases Nat.eq_zero_or_pos b with hb | hb
      · exact .inr ⟨hb.symm, trivial⟩
      · exact .inl hb
  | _ :: _ :: _ :: r, _ => exact .inl (by show 2 < r.length + 3; omega)
set_option maxRecDepth 100000 in
set_option maxHeartbeats 4000000 in
theorem YardShort_any (r : RawY) (ag : Option Addr) (cg : Nat) (mv : List Int) (vm : Value) (w : World) (hx : RowAt w (.slice ag r.devs.length cg) r.devs.length 3 (r.devs.flatMap RawD.cells)) (hI : ∀ d ∈ r.devs, I6 d.kind ∧ I6 d.a ∧ I6 d.b) (hp : I6 r.points) (hf : I6 r.fed) (hd : I6 r.drawn) (hmv : RowAt w vm mv.length 1 (ints mv)) (hmi : ∀ x ∈ mv, I6 x) (hml : mv.length ≤ 2000000) :
    Calls Try.prog 6 #[.agg #[.int .i64 r.points, .int .i64 r.fed, .int .i64 r.drawn, .slice ag r.devs.length cg], vm] w fun e w' => e = .returned (.bool true) ∧ Below w.heap.size w w' := by
  have HYF : Hid (∀ w', Below w.heap.size w w' → Calls Try.prog 15 #[.agg #[.int .i64 r.points, .int .i64 r.fed, .int .i64 r.drawn, .slice ag r.devs.length cg]] w' (FromO w')) := fun w' hb => yardFrom_any r ag cg w' (hx.below hb (Nat.le_refl _)) hI hp hf hd
  obtain ⟨am, cm, rfl⟩ := rowAt_slice hmv
  clear hx hI hp hf hd
  obtain ⟨p0, hp0⟩ : ∃ x, x = r.points := ⟨_, rfl⟩
  obtain ⟨p1, hp1⟩ : ∃ x, x = r.fed := ⟨_, rfl⟩
  obtain ⟨p2, hp2⟩ : ∃ x, x = r.drawn := ⟨_, rfl⟩
  obtain ⟨l0, hl0⟩ : ∃ x, x = r.devs.length := ⟨_, rfl⟩
  rw [← hp0, ← hp1, ← hp2, ← hl0] at HYF ⊢
  clear hp0 hp1 hp2 hl0
  have HM := hide' hmv
  have HMI := hide' hmi
  clear hmv hmi
  go_enter Try.func6, Try.ntmps6
  go_upto_region 1 with fail
  have hqRb := alloc_new w (.cells #[.int .i64 p0, .int .i64 p1, .int .i64 p2, .slice ag l0 cg] 40)
  have hb1 := below_al w (.cells #[.int .i64 p0, .int .i64 p1, .int .i64 p2, .slice ag l0 cg] 40)
  obtain ⟨w1, hw1⟩ : ∃ x, x = (w.alloc (.cells #[.int .i64 p0, .int .i64 p1, .int .i64 p2, .slice ag l0 cg] 40)) := ⟨_, rfl⟩
  rw [← hw1] at hqRb hb1 ⊢
  obtain ⟨Rb, hnRb⟩ : ∃ x, x = w.heap.size := ⟨_, rfl⟩
  have HNE : Hid (w.heap.size ≤ Rb) := by show _ ≤ _; omega
  rw [← hnRb] at hqRb
  rw [show (Value.pointer (some { block := w.heap.size, off := 0 })) = Value.pointer (some { block := Rb, off := 0 }) by rw [hnRb]]
  have HQRb := hide' hqRb
  have HB1 := hide' hb1
  clear hqRb hb1 hw1 hnRb
  go_upto_region 2 with fail
  have n1 := alloc_new w1 (.cells #[.int .i64 0] 3)
  have b1 := below_al w1 (.cells #[.int .i64 0] 3)
  have z1 : (w1.alloc (.cells #[.int .i64 0] 3)).heap.size = w1.heap.size + 1 := World.size_alloc ..
  obtain ⟨v1, hv1⟩ : ∃ x, x = w1.alloc (.cells #[.int .i64 0] 3) := ⟨_, rfl⟩
  rw [← hv1] at n1 b1 z1 ⊢
  have n2 := alloc_new v1 (.cells #[.int .i64 2] 3)
  have b2 := below_al v1 (.cells #[.int .i64 2] 3)
  have z2 : (v1.alloc (.cells #[.int .i64 2] 3)).heap.size = v1.heap.size + 1 := World.size_alloc ..
  obtain ⟨v2, hv2⟩ : ∃ x, x = v1.alloc (.cells #[.int .i64 2] 3) := ⟨_, rfl⟩
  rw [← hv2] at n2 b2 z2 ⊢
  have n3 := alloc_new v2 (.cells #[.int .i64 1, .int .i64 1, .int .i64 2, .bool false, .int .i64 2, .int .i64 0, .int .i64 1, .bool false] 45)
  have b3 := below_al v2 (.cells #[.int .i64 1, .int .i64 1, .int .i64 2, .bool false, .int .i64 2, .int .i64 0, .int .i64 1, .bool false] 45)
  have z3 : (v2.alloc (.cells #[.int .i64 1, .int .i64 1, .int .i64 2, .bool false, .int .i64 2, .int .i64 0, .int .i64 1, .bool false] 45)).heap.size = v2.heap.size + 1 := World.size_alloc ..
  obtain ⟨v3, hv3⟩ : ∃ x, x = v2.alloc (.cells #[.int .i64 1, .int .i64 1, .int .i64 2, .bool false, .int .i64 2, .int .i64 0, .int .i64 1, .bool false] 45) := ⟨_, rfl⟩
  rw [← hv3] at n3 b3 z3 ⊢
  obtain ⟨S1, hS1⟩ : ∃ x, x = w1.heap.size := ⟨_, rfl⟩
  rw [← hS1] at n1 z1 ⊢
  obtain ⟨S2, hS2⟩ : ∃ x, x = S1 + 1 := ⟨_, rfl⟩
  rw [z1, ← hS2] at n2 z2
  obtain ⟨S3, hS3⟩ : ∃ x, x = S2 + 1 := ⟨_, rfl⟩
  rw [z2, ← hS3] at n3 z3
  obtain ⟨T, hT⟩ : ∃ x, x = S3 + 1 := ⟨_, rfl⟩
  rw [← hS2, ← hS3, ← hT]
  have n4 := alloc_new v3 (.cells #[.int .i64 3, .slice (some ⟨S1, 0, none⟩) 1 1, .slice (some ⟨S2, 0, none⟩) 1 1, .slice (some ⟨S3, 0, none⟩) 2 2] 25)
  have b4 := below_al v3 (.cells #[.int .i64 3, .slice (some ⟨S1, 0, none⟩) 1 1, .slice (some ⟨S2, 0, none⟩) 1 1, .slice (some ⟨S3, 0, none⟩) 2 2] 25)
  obtain ⟨v4, hv4⟩ : ∃ x, x = v3.alloc (.cells #[.int .i64 3, .slice (some ⟨S1, 0, none⟩) 1 1, .slice (some ⟨S2, 0, none⟩) 1 1, .slice (some ⟨S3, 0, none⟩) 2 2] 25) := ⟨_, rfl⟩
  rw [← hv4] at n4 b4 ⊢
  rw [z3, ← hT] at n4
  have HB2 : Hid (Below w1.heap.size w1 v4) := ((b1.trans (b2.mono b1.size)).trans (b3.mono (b1.trans (b2.mono b1.size)).size)).trans (b4.mono ((b1.trans (b2.mono b1.size)).trans (b3.mono (b1.trans (b2.mono b1.size)).size)).size)
  have m1 := (b4.block S1 (lt_heap ((b3.block S1 (lt_heap ((b2.block S1 (lt_heap n1)).trans n1))).trans ((b2.block S1 (lt_heap n1)).trans n1)))).trans ((b3.block S1 (lt_heap ((b2.block S1 (lt_heap n1)).trans n1))).trans ((b2.block S1 (lt_heap n1)).trans n1))
  have m2 := (b4.block S2 (lt_heap ((b3.block S2 (lt_heap n2)).trans n2))).trans ((b3.block S2 (lt_heap n2)).trans n2)
  have m3 := (b4.block S3 (lt_heap n3)).trans n3
  have HB3 := hide' (HB1.out.trans (HB2.out.mono HB1.out.size))
  have HYA : Hid (YardAt v4 (some ⟨S1, 0, none⟩) (some ⟨S2, 0, none⟩) (some ⟨S3, 0, none⟩) 1 1 2 two0) :=
    ⟨rowAt_of_own (B := 0) (e := 3) ⟨rfl, .inr ⟨S1, 1, _, rfl, Nat.zero_le _, m1, Nat.le_refl _, by unfold maxLen; decide, rfl, rfl⟩⟩, rowAt_of_own (B := 0) (e := 3) ⟨rfl, .inr ⟨S2, 1, _, rfl, Nat.zero_le _, m2, Nat.le_refl _, by unfold maxLen; decide, rfl, rfl⟩⟩, rowAt_of_own (B := 0) (e := 45) ⟨rfl, .inr ⟨S3, 2, _, rfl, Nat.zero_le _, m3, Nat.le_refl _, by unfold maxLen; decide, rfl, rfl⟩⟩⟩
  have HR4 := hide' ((HB2.out.block Rb (lt_heap HQRb.out)).trans HQRb.out)
  have t0 : v4.cell? ⟨T, 0, none⟩ = some (.int .i64 3) := (cells_at n4 0).trans rfl
  have t1 : v4.cell? ⟨T, 1, none⟩ = some (.slice (some ⟨S1, 0, none⟩) 1 1) := (cells_at n4 1).trans rfl
  have t2 : v4.cell? ⟨T, 2, none⟩ = some (.slice (some ⟨S2, 0, none⟩) 1 1) := (cells_at n4 2).trans rfl
  have t3 : v4.cell? ⟨T, 3, none⟩ = some (.slice (some ⟨S3, 0, none⟩) 2 2) := (cells_at n4 3).trans rfl
  have HPC : Hid (∀ W, Below v4.heap.size v4 W → ∀ gv, RowAt W gv 2 1 ([true, true].map Value.bool) → Calls Try.prog 11 #[.agg #[.int .i64 3, .slice (some ⟨S1, 0, none⟩) 1 1, .slice (some ⟨S2, 0, none⟩) 1 1, .slice (some ⟨S3, 0, none⟩) 2 2], gv] W (PlanAns two0 [true, true] W)) := fun W hW gv hg => Plan_any two0 [true, true] gv (some ⟨S1, 0, none⟩) (some ⟨S2, 0, none⟩) (some ⟨S3, 0, none⟩) 1 1 2 W (HYA.out.below hW (Nat.le_refl _)) (by decide) (by decide) (by decide) hg (by decide)
  have HGR : Hid (RowAt (v4.alloc (.cells #[.bool true, .bool true] 4)) (.slice (some ⟨v4.heap.size, 0, none⟩) 2 2) 2 1 ([true, true].map Value.bool)) := rowAt_of_own (B := 0) (e := 4) ⟨rfl, .inr ⟨v4.heap.size, 2, _, rfl, Nat.zero_le _, alloc_new v4 _, Nat.le_refl _, by unfold maxLen; decide, rfl, rfl⟩⟩
  clear n1 n2 n3 n4 b1 b2 b3 b4 z1 z2 z3 hv1 hv2 hv3 hv4 hS1 hS2 hS3 hT m1 m2 m3 HYA HQRb
  go_wp2_with fail
  refine (HPC.out _ (below_al v4 _) _ HGR.out).mono ?_
  intro e w5 hpa
  rcases hpa with ⟨h1, _⟩ | ⟨_, h1, _⟩ | ⟨_, _, ⟨q, v, hq, rfl, hv⟩ | ⟨hq, _⟩, hb5⟩
  · rw [two_ok] at h1; cases h1
  · exact absurd rfl h1
  · obtain rfl : q = [1, 0] := best_one hq two_best
    obtain ⟨g, cp, hvv⟩ : ∃ g cp, v = .slice (some ⟨g, 0, none⟩) 2 cp := by
      rcases hv.2 with ⟨_, h0⟩ | ⟨g, c, _, hv2, _⟩
      · cases h0
      · exact ⟨g, c, hv2⟩
    subst hvv
    have l1 : w5.cell? ⟨g, 0, none⟩ = some (.int .i64 1) := (own_cell hv rfl).1
    have l2 : w5.cell? ⟨g, 1, none⟩ = some (.int .i64 0) := (own_cell hv rfl).1
    have HB5 : Hid (Below v4.heap.size v4 w5) := (below_al v4 _).trans (hb5.mono (below_al v4 _).size)
    have HB6 := hide' (HB3.out.trans (HB5.out.mono HB3.out.size))
    have HR5 := hide' ((HB5.out.block Rb (lt_heap HR4.out)).trans HR4.out)
    clear hq hv hb5 HPC HGR t0 t1 t2 t3
    go_upto_region 3 with fail
    rename_i K1 hK1 K0 hK0
    have HK0 := hide' hK0
    have HK1 := hide' hK1
    clear hK0 hK1
    go_wp2_with fail
    refine HK0.out _ _ ?_
    go_wp2_with fail
    refine HK1.out _ _ ?_
    exact shortC w w5 Rb l0 cg cm p0 p1 p2 ag am mv HR5.out HB6.out HYF HM.out HMI.out hml _ _ _ _ _ _ _ _ _ _ _ _ _ _ _ _ _ _ _ _ _ _ _ _ _ _ _ _ _ _ _ _ _ _ _ _ _ _ _ _ _ _ _ _ _ _ _ _ _ _ _ _ _ _ _ _ _ _ _ _ _ _ _ _ _ _ _ _ _ _ _ _ _ _ _ _ _ _ _ _ _ _ _ _ _ _ _ _ _ _ _ _ _ _ _ _ _ _ _ _ _ _ _ _ _ _ _ _ _ _ _ _ _ _ _ _ _ _ _ _ _ _ _ _ _ _ _ _ _ _ _ _ _ _ _ _ _ _ _ _ _ _ _ _ _ _ _ _ _ _ _ _ _ _ _ _ _ _ _ _ _ _ _ _ _ _ _ _ _ _ _ _ _ _ _ _ _ _ _
  · exact absurd two_best.1 (hq [1, 0])
end Go.Proofs.Ytcnoipcpifackah
