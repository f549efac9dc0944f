/- eachTwo, tenths, cents, Bill. -/
import Derived.Test.YtmbgjmkndhjilakM1
namespace Go.Proofs.Ytmbgjmkndhjilak.Mtr
open Go.RowKit Go.Shelf

def belowB (a b : BandM) : Bool := decide (a.to_ < b.to_)
theorem each_next {α : Type} {p : α → α → Bool} {l : List α} {k : Nat} (hk : k + 1 < l.length) (h : ∀ j (hj : j + 1 < l.length), j + 1 < k + 1 → p l[j] l[j + 1] = true) (hp : p l[k] l[k + 1] = true) : ∀ j (hj : j + 1 < l.length), j + 1 < k + 1 + 1 → p l[j] l[j + 1] = true := fun j hj hjk => by
  by_cases e : j = k
  · subst e; exact hp
  · exact h j hj (by omega)
set_option maxRecDepth 100000 in
set_option maxHeartbeats 2000000 in
theorem eachBand_any (l : List BandM) (v : Value) (w : World) (hx : RowAt w v l.length 2 (l.flatMap BandM.cells)) (hn : l.length ≤ 9000000000000000000) :
    Calls Try.prog 38 #[v, .func (.func 39) #[] #[]] w fun e w' => e = .returned (.bool (eachB belowB l)) ∧ Below w.heap.size w w' := by
  have HX := hide' hx
  have HF : Hid (∀ a b W, Calls Try.prog 39 #[.agg #[.int .i64 a.to_, .int .i64 a.tenths], .agg #[.int .i64 b.to_, .int .i64 b.tenths]] W fun e w' => e = .returned (.bool (belowB a b)) ∧ Below W.heap.size W w') := below_any
  obtain ⟨ag, cg, rfl⟩ := rowAt_slice hx
  clear hx
  go_enter Try.func38, Try.ntmps38
  go_wp2_with fail
  go_loopw [5] (fun i wr => ∃ (j k : Nat), i = .int .i64 k ∧ k = j + 1 ∧ (k ≤ l.length ∨ k = 1) ∧ Hid (∀ j (hj : j + 1 < l.length), j + 1 < k → belowB l[j] l[j + 1] = true) ∧ Hid (Below w.heap.size w wr)) (fun i _ => l.length - (intOf i).toNat)
  case atStart => exact ⟨0, 1, rfl, rfl, Or.inr rfl, fun j _ h => absurd h (by omega), Below.refl _ w⟩
  case round =>
    obtain ⟨j, k, rfl, hjk, hk, HOK, HBE⟩ := hrel
    by_cases hlt : k < l.length
    · have hwj : IntKind.i64.wrap ((k : Int) - 1) = (j : Int) := by rw [Go.IntWalk.i64_in _ (by omega)]; omega
      have hlj : j < l.length := by omega
      obtain ⟨bt, ot, ct', ex, _, hct⟩ := row_elem band_len HX.out j hlj (by decide)
      obtain ⟨bt2, ot2, ct2, ex2, _, hct2⟩ := row_elem band_len HX.out k hlt (by decide)
      cases ex
      simp only [Value.slice.injEq, Option.some.injEq, Addr.mk.injEq, and_true] at ex2
      obtain ⟨⟨rfl, rfl⟩, _, rfl⟩ := ex2
      have hl1 : j + 1 < l.length := by omega
      have HNX : Hid (belowB l[j] l[k] = true → ∀ j (hj : j + 1 < l.length), j + 1 < k + 1 → belowB l[j] l[j + 1] = true) := fun h => by
        subst hjk
        exact each_next hl1 HOK.out h
      have HNO : Hid (belowB l[j] l[k] = false → eachB belowB l = false) := fun h => by
        subst hjk
        exact each_no hl1 h
      have q0 : Hid (w.cell? ⟨bt, ot + j * 2, none⟩ = some (.int .i64 (l[j]).to_)) := hct 0 _ rfl
      have q1 : Hid (w.cell? ⟨bt, ot + j * 2 + 1, none⟩ = some (.int .i64 (l[j]).tenths)) := hct 1 _ rfl
      have q2 : Hid (w.cell? ⟨bt, ot + k * 2, none⟩ = some (.int .i64 (l[k]).to_)) := hct2 0 _ rfl
      have q3 : Hid (w.cell? ⟨bt, ot + k * 2 + 1, none⟩ = some (.int .i64 (l[k]).tenths)) := hct2 1 _ rfl
      obtain ⟨x, hx⟩ : ∃ x, x = l[j] := ⟨_, rfl⟩
      obtain ⟨y, hy⟩ : ∃ x, x = l[k] := ⟨_, rfl⟩
      rw [← hx] at q0 q1 HNX HNO
      rw [← hy] at q2 q3 HNX HNO
      have HC := hide' (HF.out x y)
      obtain ⟨q, hq⟩ : ∃ b, b = belowB x y := ⟨_, rfl⟩
      rw [← hq] at HC HNX HNO
      obtain ⟨x0, x1⟩ := x
      obtain ⟨y0, y1⟩ := y
      simp only at q0 q1 q2 q3 HC
      clear hx hy hct hct2 hq hl1 hjk
      go_upto_region 4 with fail
      refine wp_region_tail (fun W => W.cell? ⟨bt, ot + j * 2, none⟩ = some (.int .i64 x0) ∧ W.cell? ⟨bt, ot + j * 2 + 1, none⟩ = some (.int .i64 x1) ∧ W.cell? ⟨bt, ot + k * 2, none⟩ = some (.int .i64 y0) ∧ W.cell? ⟨bt, ot + k * 2 + 1, none⟩ = some (.int .i64 y1)) 10 (by kernel_rfl) ?_
      refine wpAnyT_letter (fun W => Below w.heap.size w W) HBE.out.drew ?_
      rintro z hbz
      refine wpAnyD_takeAt 0 (some 12) (v := ?_) rfl (by kernel_rfl) (by kernel_rfl) (by kernel_rfl) (by kernel_rfl) (by kernel_rfl) (fun _ _ _ h => h) (by exact ⟨up_cell hbz q0.out, up_cell hbz q1.out, up_cell hbz q2.out, up_cell hbz q3.out⟩) (fun o hop => ?_) ?_
      rotate_left
      · injection hop with hop
        subst hop
        refine ⟨rfl, fun W hW => ?_⟩
        obtain ⟨s0, s1, s2, s3⟩ := hW
        go_simp
        first
        | rfl
        | (constructor <;> rfl)
        | rw [if_neg (by omega)]
      try simp only [Act.put, List.setIfInBounds_toArray, List.set_cons_zero, List.set_cons_succ]
      refine wpAnyD_takeAt 1 (some 13) (v := ?_) rfl (by kernel_rfl) (by kernel_rfl) (by kernel_rfl) (by kernel_rfl) (by kernel_rfl) (fun _ _ _ h => h) (by exact ⟨up_cell hbz q0.out, up_cell hbz q1.out, up_cell hbz q2.out, up_cell hbz q3.out⟩) (fun o hop => ?_) ?_
      rotate_left
      · injection hop with hop
        subst hop
        refine ⟨rfl, fun W hW => ?_⟩
        obtain ⟨s0, s1, s2, s3⟩ := hW
        go_simp
        first
        | rfl
        | (constructor <;> rfl)
        | rw [if_neg (by omega)]
      try simp only [Act.put, List.setIfInBounds_toArray, List.set_cons_zero, List.set_cons_succ]
      refine wpAnyD_takeAt 2 (some 14) (v := ?_) rfl (by kernel_rfl) (by kernel_rfl) (by kernel_rfl) (by kernel_rfl) (by kernel_rfl) (fun _ _ _ h => h) (by exact ⟨up_cell hbz q0.out, up_cell hbz q1.out, up_cell hbz q2.out, up_cell hbz q3.out⟩) (fun o hop => ?_) ?_
      rotate_left
      · injection hop with hop
        subst hop
        refine ⟨rfl, fun W hW => ?_⟩
        obtain ⟨s0, s1, s2, s3⟩ := hW
        go_simp
        first
        | rfl
        | (constructor <;> rfl)
        | rw [if_neg (by omega)]
      try simp only [Act.put, List.setIfInBounds_toArray, List.set_cons_zero, List.set_cons_succ]
      refine wpAnyD_takeAt 3 (some 15) (v := ?_) rfl (by kernel_rfl) (by kernel_rfl) (by kernel_rfl) (by kernel_rfl) (by kernel_rfl) (fun _ _ _ h => h) (by exact ⟨up_cell hbz q0.out, up_cell hbz q1.out, up_cell hbz q2.out, up_cell hbz q3.out⟩) (fun o hop => ?_) ?_
      rotate_left
      · injection hop with hop
        subst hop
        refine ⟨rfl, fun W hW => ?_⟩
        obtain ⟨s0, s1, s2, s3⟩ := hW
        go_simp
        first
        | rfl
        | (constructor <;> rfl)
        | rw [if_neg (by omega)]
      try simp only [Act.put, List.setIfInBounds_toArray, List.set_cons_zero, List.set_cons_succ]
      refine wpAnyD_takeAt 4 (some 16) (v := ?_) rfl (by kernel_rfl) (by kernel_rfl) (by kernel_rfl) (by kernel_rfl) (by kernel_rfl) (fun _ _ _ h => h) (by exact ⟨up_cell hbz q0.out, up_cell hbz q1.out, up_cell hbz q2.out, up_cell hbz q3.out⟩) (fun o hop => ?_) ?_
      rotate_left
      · injection hop with hop
        subst hop
        refine ⟨rfl, fun W hW => ?_⟩
        obtain ⟨s0, s1, s2, s3⟩ := hW
        go_simp
        first
        | rfl
        | (constructor <;> rfl)
        | rw [if_neg (by omega)]
      try simp only [Act.put, List.setIfInBounds_toArray, List.set_cons_zero, List.set_cons_succ]
      refine wpAnyD_takeAt 5 (some 17) (v := ?_) rfl (by kernel_rfl) (by kernel_rfl) (by kernel_rfl) (by kernel_rfl) (by kernel_rfl) (fun _ _ _ h => h) (by exact ⟨up_cell hbz q0.out, up_cell hbz q1.out, up_cell hbz q2.out, up_cell hbz q3.out⟩) (fun o hop => ?_) ?_
      rotate_left
      · injection hop with hop
        subst hop
        refine ⟨rfl, fun W hW => ?_⟩
        obtain ⟨s0, s1, s2, s3⟩ := hW
        go_simp
        first
        | rfl
        | (constructor <;> rfl)
        | rw [if_neg (by omega)]
      try simp only [Act.put, List.setIfInBounds_toArray, List.set_cons_zero, List.set_cons_succ]
      refine wpAnyD_takeAt 6 (some 18) (v := ?_) rfl (by kernel_rfl) (by kernel_rfl) (by kernel_rfl) (by kernel_rfl) (by kernel_rfl) (fun _ _ _ h => h) (by exact ⟨up_cell hbz q0.out, up_cell hbz q1.out, up_cell hbz q2.out, up_cell hbz q3.out⟩) (fun o hop => ?_) ?_
      rotate_left
      · injection hop with hop
        subst hop
        refine ⟨rfl, fun W hW => ?_⟩
        obtain ⟨s0, s1, s2, s3⟩ := hW
        go_simp
        first
        | rfl
        | (constructor <;> rfl)
        | rw [if_neg (by omega)]
      try simp only [Act.put, List.setIfInBounds_toArray, List.set_cons_zero, List.set_cons_succ]
      refine wpAnyD_takeAt 7 (some 19) (v := ?_) rfl (by kernel_rfl) (by kernel_rfl) (by kernel_rfl) (by kernel_rfl) (by kernel_rfl) (fun _ _ _ h => h) (by exact ⟨up_cell hbz q0.out, up_cell hbz q1.out, up_cell hbz q2.out, up_cell hbz q3.out⟩) (fun o hop => ?_) ?_
      rotate_left
      · injection hop with hop
        subst hop
        refine ⟨rfl, fun W hW => ?_⟩
        obtain ⟨s0, s1, s2, s3⟩ := hW
        go_simp
        first
        | rfl
        | (constructor <;> rfl)
        | rw [if_neg (by omega)]
      try simp only [Act.put, List.setIfInBounds_toArray, List.set_cons_zero, List.set_cons_succ]
      refine wpAnyD_takeAt 8 (some 20) (v := ?_) rfl (by kernel_rfl) (by kernel_rfl) (by kernel_rfl) (by kernel_rfl) (by kernel_rfl) (fun _ _ _ h => h) (by exact ⟨up_cell hbz q0.out, up_cell hbz q1.out, up_cell hbz q2.out, up_cell hbz q3.out⟩) (fun o hop => ?_) ?_
      rotate_left
      · injection hop with hop
        subst hop
        refine ⟨rfl, fun W hW => ?_⟩
        obtain ⟨s0, s1, s2, s3⟩ := hW
        go_simp
        first
        | rfl
        | (constructor <;> rfl)
        | rw [if_neg (by omega)]
      try simp only [Act.put, List.setIfInBounds_toArray, List.set_cons_zero, List.set_cons_succ]
      refine wpAnyD_takeAt 9 (some 21) (v := ?_) rfl (by kernel_rfl) (by kernel_rfl) (by kernel_rfl) (by kernel_rfl) (by kernel_rfl) (fun _ _ _ h => h) (by exact ⟨up_cell hbz q0.out, up_cell hbz q1.out, up_cell hbz q2.out, up_cell hbz q3.out⟩) (fun o hop => ?_) ?_
      rotate_left
      · injection hop with hop
        subst hop
        refine ⟨rfl, fun W hW => ?_⟩
        obtain ⟨s0, s1, s2, s3⟩ := hW
        go_simp
        first
        | rfl
        | (constructor <;> rfl)
        | rw [if_neg (by omega)]
      try simp only [Act.put, List.setIfInBounds_toArray, List.set_cons_zero, List.set_cons_succ]
      refine wpAnyT_one (i := 10) (by kernel_rfl) rfl rfl (fun K' hK => ?_)
      go_simp
      go_at_call 39
      refine (HC.out z).mono ?_
      rintro e z2 ⟨rfl, hb2⟩
      replace hbz := hbz.trans (hb2.mono hbz.size)
      clear hb2
      refine hK.out _ _ (fun h => absurd rfl h) ?_
      clear hK K'
      refine wpAnyT_one (i := 11) (by kernel_rfl) rfl rfl (fun K' hK => ?_)
      go_simp
      refine hK.out _ _ (fun _ => by exact ⟨up_cell hbz q0.out, up_cell hbz q1.out, up_cell hbz q2.out, up_cell hbz q3.out⟩) ?_
      clear hK K'
      refine wpAnyT_done (by kernel_rfl) ?_ _
      have HBN := hide' hbz
      clear hbz
      cases q with
      | true =>
        have HY := hide' (HNX.out rfl)
        go_wp2_with fail
        go_roundw
        case rel => exact ⟨k, k + 1, by go_num, rfl, by omega, HY.out, HBN⟩
        case measure => simp [intOf]; omega
      | false =>
        have HZ := hide' (HNO.out rfl)
        go_wp2
        go_ret
        exact ⟨by rw [HZ.out]; rfl, HBN.out⟩
    · have HY := hide' (each_yes (p := belowB) l (fun j' hj' => HOK.out j' hj' (by omega)))
      go_wp2
      go_ret
      exact ⟨by rw [HY.out]; rfl, HBE.out⟩
end Go.Proofs.Ytmbgjmkndhjilak.Mtr
