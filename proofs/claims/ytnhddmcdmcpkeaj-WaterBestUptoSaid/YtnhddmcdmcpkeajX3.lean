/- Rows and tables that tell the same; copies. -/
import Derived.Test.YtnhddmcdmcpkeajGA
namespace Go.Proofs.Ytnhddmcdmcpkeaj
open Go.RowKit Go.Shelf

set_option maxRecDepth 100000 in
theorem sameInts_same (l : List Int) (u v : Value) (w : World) (hu : RowAt w u l.length 1 (ints l)) (hv : RowAt w v l.length 1 (ints l)) (hn : l.length ≤ 9000000000000000000) : Calls Try.prog 45 #[u, v] w fun e w' => e = .returned (.bool true) ∧ Below w.heap.size w w' := by
  have HU := hide' hu
  have HV := hide' hv
  obtain ⟨au, cu, rfl⟩ := rowAt_slice hu
  obtain ⟨av, cv, rfl⟩ := rowAt_slice hv
  clear hu hv
  go_enter Try.func45, Try.ntmps45
  go_wp2_with fail
  go_loopw [5] (fun i wr => ∃ (k : Nat), i = .int .i64 k ∧ k ≤ l.length ∧ Hid (Below w.heap.size w wr)) (fun i _ => l.length - (intOf i).toNat)
  case atStart => exact ⟨0, rfl, Nat.zero_le _, Below.refl _ w⟩
  case round =>
    obtain ⟨k, rfl, hk, HBE⟩ := hrel
    by_cases hlt : k < l.length
    · obtain ⟨b1, o1, c1, ex1, hc1⟩ := ints_cell HU.out k hlt
      cases ex1
      obtain ⟨b2, o2, c2, ex2, hc2⟩ := ints_cell HV.out k hlt
      cases ex2
      have d1 := up_cell HBE.out hc1
      have d2 := up_cell HBE.out hc2
      obtain ⟨x, hx⟩ : ∃ x, x = l.getD k 0 := ⟨_, rfl⟩
      rw [← hx] at d1 d2
      have HBD : Hid (∀ m, Below w.heap.size w (wr.drewN m)) := fun m => below_drewN HBE.out m
      clear hc1 hc2 hx HBE
      go_wp2_with fail
      go_quiet (fail)
      go_wp2
      go_roundw
      case rel => exact ⟨k + 1, by go_num, by omega, HBD.out _⟩
      case measure => simp [intOf]; omega
    · go_wp2
      go_ret
      exact ⟨rfl, HBE.out⟩
set_option maxRecDepth 100000 in
set_option maxHeartbeats 2000000 in
theorem sameTables_same (t : List (List Int)) (u v : Value) (w : World) (hu : TabAt w u t) (hv : TabAt w v t) (hn : t.length ≤ 9000000000000000000) (hl : ∀ l ∈ t, l.length ≤ 9000000000000000000) : Calls Try.prog 26 #[u, v] w fun e w' => e = .returned (.bool true) ∧ Below w.heap.size w w' := by
  have HU := hide' hu
  have HV := hide' hv
  have HL := hide' hl
  obtain ⟨au, cu, rfl⟩ := hu.slice
  obtain ⟨av, cv, rfl⟩ := hv.slice
  clear hu hv hl
  go_enter Try.func26, Try.ntmps26
  go_wp2_with fail
  go_loopw [5] (fun i wr => ∃ (k : Nat), i = .int .i64 k ∧ k ≤ t.length ∧ Hid (Below w.heap.size w wr)) (fun i _ => t.length - (intOf i).toNat)
  case atStart => exact ⟨0, rfl, Nat.zero_le _, Below.refl _ w⟩
  case round =>
    obtain ⟨k, rfl, hk, HBE⟩ := hrel
    by_cases hlt : k < t.length
    · obtain ⟨b1, o1, c1, x1, d1, ex1, hc1, hr1⟩ := HU.out.cell k hlt
      simp only [Value.slice.injEq] at ex1
      obtain ⟨rfl, hz1, rfl⟩ := ex1
      obtain ⟨b2, o2, c2, x2, d2, ex2, hc2, hr2⟩ := HV.out.cell k hlt
      simp only [Value.slice.injEq] at ex2
      obtain ⟨rfl, hz2, rfl⟩ := ex2
      have HSI : Hid (∀ W, Below w.heap.size w W → Calls Try.prog 45 #[.slice x1 (t[k]).length d1, .slice x2 (t[k]).length d2] W fun e w' => e = .returned (.bool true) ∧ Below W.heap.size W w') := fun W hb => sameInts_same t[k] _ _ W (hr1.below hb (Nat.le_refl _)) (hr2.below hb (Nat.le_refl _)) (HL.out _ (List.getElem_mem hlt))
      obtain ⟨m, hm⟩ : ∃ m, m = (t[k]).length := ⟨_, rfl⟩
      rw [← hm] at HSI hc1 hc2
      have q1 := hide' hc1
      have q2 := hide' hc2
      clear hz1 hz2 hc1 hc2 hr1 hr2 hm
      go_upto_region 6 with fail
      refine wp_region_tail (fun W => W.cell? ⟨b1, o1 + k, none⟩ = some (.slice x1 m d1) ∧ W.cell? ⟨b2, o2 + k, none⟩ = some (.slice x2 m d2)) 9 (by kernel_rfl) ?_
      refine wpAnyT_letter (fun W => Below w.heap.size w W) HBE.out.drew ?_
      rintro z hbz
      refine wpAnyD_takeAt 0 (some 17) (v := ?_) rfl (by kernel_rfl) (by kernel_rfl) (by kernel_rfl) (by kernel_rfl) (by kernel_rfl) (fun _ _ _ h => h) (by exact ⟨up_cell hbz q1.out, up_cell hbz q2.out⟩) (fun o hop => ?_) ?_
      rotate_left
      · injection hop with hop
        subst hop
        refine ⟨rfl, fun W hW => ?_⟩
        obtain ⟨s0, s1⟩ := hW
        go_simp
        first
        | rfl
        | (constructor <;> rfl)
        | rw [if_neg (by omega)]
      try simp only [Act.put, List.setIfInBounds_toArray, List.set_cons_zero, List.set_cons_succ]
      refine wpAnyD_takeAt 1 (some 18) (v := ?_) rfl (by kernel_rfl) (by kernel_rfl) (by kernel_rfl) (by kernel_rfl) (by kernel_rfl) (fun _ _ _ h => h) (by exact ⟨up_cell hbz q1.out, up_cell hbz q2.out⟩) (fun o hop => ?_) ?_
      rotate_left
      · injection hop with hop
        subst hop
        refine ⟨rfl, fun W hW => ?_⟩
        obtain ⟨s0, s1⟩ := hW
        go_simp
        first
        | rfl
        | (constructor <;> rfl)
        | rw [if_neg (by omega)]
      try simp only [Act.put, List.setIfInBounds_toArray, List.set_cons_zero, List.set_cons_succ]
      refine wpAnyD_takeAt 2 (some 19) (v := ?_) rfl (by kernel_rfl) (by kernel_rfl) (by kernel_rfl) (by kernel_rfl) (by kernel_rfl) (fun _ _ _ h => h) (by exact ⟨up_cell hbz q1.out, up_cell hbz q2.out⟩) (fun o hop => ?_) ?_
      rotate_left
      · injection hop with hop
        subst hop
        refine ⟨rfl, fun W hW => ?_⟩
        obtain ⟨s0, s1⟩ := hW
        go_simp
        first
        | rfl
        | (constructor <;> rfl)
        | rw [if_neg (by omega)]
      try simp only [Act.put, List.setIfInBounds_toArray, List.set_cons_zero, List.set_cons_succ]
      refine wpAnyD_takeAt 3 (some 20) (v := ?_) rfl (by kernel_rfl) (by kernel_rfl) (by kernel_rfl) (by kernel_rfl) (by kernel_rfl) (fun _ _ _ h => h) (by exact ⟨up_cell hbz q1.out, up_cell hbz q2.out⟩) (fun o hop => ?_) ?_
      rotate_left
      · injection hop with hop
        subst hop
        refine ⟨rfl, fun W hW => ?_⟩
        obtain ⟨s0, s1⟩ := hW
        go_simp
        first
        | rfl
        | (constructor <;> rfl)
        | rw [if_neg (by omega)]
      try simp only [Act.put, List.setIfInBounds_toArray, List.set_cons_zero, List.set_cons_succ]
      refine wpAnyD_takeAt 4 (some 21) (v := ?_) rfl (by kernel_rfl) (by kernel_rfl) (by kernel_rfl) (by kernel_rfl) (by kernel_rfl) (fun _ _ _ h => h) (by exact ⟨up_cell hbz q1.out, up_cell hbz q2.out⟩) (fun o hop => ?_) ?_
      rotate_left
      · injection hop with hop
        subst hop
        refine ⟨rfl, fun W hW => ?_⟩
        obtain ⟨s0, s1⟩ := hW
        go_simp
        first
        | rfl
        | (constructor <;> rfl)
        | rw [if_neg (by omega)]
      try simp only [Act.put, List.setIfInBounds_toArray, List.set_cons_zero, List.set_cons_succ]
      refine wpAnyD_takeAt 5 (some 22) (v := ?_) rfl (by kernel_rfl) (by kernel_rfl) (by kernel_rfl) (by kernel_rfl) (by kernel_rfl) (fun _ _ _ h => h) (by exact ⟨up_cell hbz q1.out, up_cell hbz q2.out⟩) (fun o hop => ?_) ?_
      rotate_left
      · injection hop with hop
        subst hop
        refine ⟨rfl, fun W hW => ?_⟩
        obtain ⟨s0, s1⟩ := hW
        go_simp
        first
        | rfl
        | (constructor <;> rfl)
        | rw [if_neg (by omega)]
      try simp only [Act.put, List.setIfInBounds_toArray, List.set_cons_zero, List.set_cons_succ]
      refine wpAnyD_takeAt 6 (some 23) (v := ?_) rfl (by kernel_rfl) (by kernel_rfl) (by kernel_rfl) (by kernel_rfl) (by kernel_rfl) (fun _ _ _ h => h) (by exact ⟨up_cell hbz q1.out, up_cell hbz q2.out⟩) (fun o hop => ?_) ?_
      rotate_left
      · injection hop with hop
        subst hop
        refine ⟨rfl, fun W hW => ?_⟩
        obtain ⟨s0, s1⟩ := hW
        go_simp
        first
        | rfl
        | (constructor <;> rfl)
        | rw [if_neg (by omega)]
      try simp only [Act.put, List.setIfInBounds_toArray, List.set_cons_zero, List.set_cons_succ]
      refine wpAnyD_takeAt 7 (some 24) (v := ?_) rfl (by kernel_rfl) (by kernel_rfl) (by kernel_rfl) (by kernel_rfl) (by kernel_rfl) (fun _ _ _ h => h) (by exact ⟨up_cell hbz q1.out, up_cell hbz q2.out⟩) (fun o hop => ?_) ?_
      rotate_left
      · injection hop with hop
        subst hop
        refine ⟨rfl, fun W hW => ?_⟩
        obtain ⟨s0, s1⟩ := hW
        go_simp
        first
        | rfl
        | (constructor <;> rfl)
        | rw [if_neg (by omega)]
      try simp only [Act.put, List.setIfInBounds_toArray, List.set_cons_zero, List.set_cons_succ]
      refine wpAnyT_one (i := 8) (by kernel_rfl) rfl rfl (fun K' hK => ?_)
      go_simp
      go_at_call 45
      refine (HSI.out z hbz).mono ?_
      rintro e z2 ⟨rfl, hb2⟩
      replace hbz := hbz.trans (hb2.mono hbz.size)
      clear hb2
      refine hK.out _ _ (fun _ => by exact ⟨up_cell hbz q1.out, up_cell hbz q2.out⟩) ?_
      clear hK K'
      refine wpAnyT_one (i := 9) (by kernel_rfl) rfl rfl (fun K' hK => ?_)
      go_simp
      refine hK.out _ _ (fun h => absurd rfl h) ?_
      clear hK K'
      refine wpAnyT_done (by kernel_rfl) ?_ _
      have HBN := hide' hbz
      clear hbz
      go_wp2_with fail
      go_roundw
      case rel => exact ⟨k + 1, by go_num, by omega, HBN⟩
      case measure => simp [intOf]; omega
    · go_wp2
      go_ret
      exact ⟨rfl, HBE.out⟩
end Go.Proofs.Ytnhddmcdmcpkeaj
