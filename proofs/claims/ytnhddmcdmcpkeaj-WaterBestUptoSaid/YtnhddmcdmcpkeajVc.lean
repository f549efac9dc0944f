/- draft, Best. -/
import Derived.Test.YtnhddmcdmcpkeajVb
namespace Go.Proofs.Ytnhddmcdmcpkeaj
open Go.RowKit Go.Shelf Go.ChangeMaps

set_option maxRecDepth 100000 in
set_option maxHeartbeats 4000000 in
theorem draft_any (al ai ap ae : Option Addr) (L H cl ci cp ce : Nat) (W : World) : Calls Try.prog 48 #[.agg #[.slice al L cl, .slice ai H ci], .slice ap H cp, .slice ae L ce] W fun e w' => ∃ M clock, e = .returned (.agg #[.slice al L cl, .slice ai H ci, .slice ap H cp, .slice ae L ce, .map (some M)]) ∧ W.heap.size ≤ M ∧ w'.heap[M]? = some (.map #[] clock) ∧ Below W.heap.size W w' := by
  go_enter Try.func48, Try.ntmps48
  go_upto_region 1 with fail
  have hqA := (alloc_old (W.alloc (.cells #[.slice al L cl, .slice ai H ci] 75)) (.cells #[.slice none 0 0, .slice none 0 0, .slice none 0 0, .slice none 0 0, .map none] 88) (lt_heap (alloc_new W (.cells #[.slice al L cl, .slice ai H ci] 75)))).trans (alloc_new W (.cells #[.slice al L cl, .slice ai H ci] 75))
  have hqS := alloc_new (W.alloc (.cells #[.slice al L cl, .slice ai H ci] 75)) (.cells #[.slice none 0 0, .slice none 0 0, .slice none 0 0, .slice none 0 0, .map none] 88)
  have hb1 := (below_al W (.cells #[.slice al L cl, .slice ai H ci] 75)).alloc (below_al W (.cells #[.slice al L cl, .slice ai H ci] 75)).size (.cells #[.slice none 0 0, .slice none 0 0, .slice none 0 0, .slice none 0 0, .map none] 88)
  rw [show (W.alloc (.cells #[.slice al L cl, .slice ai H ci] 75)).heap.size = W.heap.size + 1 from by simp only [World.size_alloc]] at hqS
  obtain ⟨w1, hw1⟩ : ∃ x, x = ((W.alloc (.cells #[.slice al L cl, .slice ai H ci] 75)).alloc (.cells #[.slice none 0 0, .slice none 0 0, .slice none 0 0, .slice none 0 0, .map none] 88)) := ⟨_, rfl⟩
  rw [← hw1] at hqA hqS hb1 ⊢
  obtain ⟨A, hnA⟩ : ∃ x, x = W.heap.size := ⟨_, rfl⟩
  obtain ⟨S, hnS⟩ : ∃ x, x = W.heap.size + 1 := ⟨_, rfl⟩
  have HNE : Hid (W.heap.size ≤ A ∧ W.heap.size ≤ S ∧ A ≠ S) := ⟨by omega, by omega, by omega⟩
  rw [← hnA] at hqA
  rw [← hnS] at hqS
  rw [show (Value.pointer (some { block := W.heap.size, off := 0 })) = Value.pointer (some { block := A, off := 0 }) by rw [hnA], show (Value.pointer (some { block := W.heap.size + 1, off := 0 })) = Value.pointer (some { block := S, off := 0 }) by rw [hnS]]
  have HQA := hide' hqA
  have HQS := hide' hqS
  have HB1 := hide' hb1
  clear hqA hqS hb1 hw1 hnA hnS
  have a0 : w1.cell? ⟨A, 0, none⟩ = some (.slice al L cl) := (cells_at HQA.out 0).trans rfl
  have a1 : w1.cell? ⟨A, 1, none⟩ = some (.slice ai H ci) := (cells_at HQA.out 1).trans rfl
  have z0 := later ((cells_at HQS.out 0).trans rfl)
  have z1 := later ((cells_at HQS.out 1).trans rfl)
  have z2 := later ((cells_at HQS.out 2).trans rfl)
  have z3 := later ((cells_at HQS.out 3).trans rfl)
  have z4 := later ((cells_at HQS.out 4).trans rfl)
  have t0 : ∀ o, (w1.alloc o).frozen? ⟨S, 0, none⟩ = false := fun o => frozen_no ((alloc_old w1 o (lt_heap HQS.out)).trans HQS.out) 0
  have t1 : ∀ o, (w1.alloc o).frozen? ⟨S, 1, none⟩ = false := fun o => frozen_no ((alloc_old w1 o (lt_heap HQS.out)).trans HQS.out) 1
  have t2 : ∀ o, (w1.alloc o).frozen? ⟨S, 2, none⟩ = false := fun o => frozen_no ((alloc_old w1 o (lt_heap HQS.out)).trans HQS.out) 2
  have t3 : ∀ o, (w1.alloc o).frozen? ⟨S, 3, none⟩ = false := fun o => frozen_no ((alloc_old w1 o (lt_heap HQS.out)).trans HQS.out) 3
  have t4 : ∀ o, (w1.alloc o).frozen? ⟨S, 4, none⟩ = false := fun o => frozen_no ((alloc_old w1 o (lt_heap HQS.out)).trans HQS.out) 4
  have hmk : (Instr.makeMap 86 none).run Try.prog w1 = .ok (.map (some w1.heap.size)) (w1.alloc (.map #[] 0)) := by simp [Instr.makeMap, Result.andThen]
  have hqS2 := (alloc_old w1 (.map #[] 0) (lt_heap HQS.out)).trans HQS.out
  have HF := hide' (set_fiveM hqS2 (.slice al L cl) (.slice ai H ci) (.slice ap H cp) (.slice ae L ce) (.map (some w1.heap.size)))
  have HSS : Hid (W.heap.size ≤ S) := HNE.out.2.1
  have HBF : Hid (∀ v0 v1 v2 v3 v4, Below W.heap.size W ((((((w1.alloc (.map #[] 0)).setCell ⟨S, 0, none⟩ v0).setCell ⟨S, 1, none⟩ v1).setCell ⟨S, 2, none⟩ v2).setCell ⟨S, 3, none⟩ v3).setCell ⟨S, 4, none⟩ v4)) := fun v0 v1 v2 v3 v4 => (((((HB1.out.alloc HB1.out.size _).setCell (p := ⟨S, 0, none⟩) HSS.out v0).setCell (p := ⟨S, 1, none⟩) HSS.out v1).setCell (p := ⟨S, 2, none⟩) HSS.out v2).setCell (p := ⟨S, 3, none⟩) HSS.out v3).setCell (p := ⟨S, 4, none⟩) HSS.out v4
  have HM : Hid (∀ v0 v1 v2 v3 v4, ((((((w1.alloc (.map #[] 0)).setCell ⟨S, 0, none⟩ v0).setCell ⟨S, 1, none⟩ v1).setCell ⟨S, 2, none⟩ v2).setCell ⟨S, 3, none⟩ v3).setCell ⟨S, 4, none⟩ v4).heap[w1.heap.size]? = some (.map #[] 0)) := fun v0 v1 v2 v3 v4 => by
    have hne : w1.heap.size ≠ S := by have := lt_heap HQS.out; omega
    rw [Below.heap_setCell _ _ _ _ hne, Below.heap_setCell _ _ _ _ hne, Below.heap_setCell _ _ _ _ hne, Below.heap_setCell _ _ _ _ hne, Below.heap_setCell _ _ _ _ hne]
    exact alloc_new w1 _
  clear hqS2
  go_wp2_with fail
  refine bodyPost_ret (results_cell_row rfl _ _ S 88 _ (0, 0) _ rfl HF.out Try.underlying88 rfl (by kernel_rfl)) rfl ?_
  exact ⟨w1.heap.size, 0, rfl, HB1.out.size, HM.out _ _ _ _ _, HBF.out _ _ _ _ _⟩
theorem cfw25 (args : Array Value) (W : World) : (callFunc 47 args).run Try.prog W = .ok (.enter 47 args) W := by
  go_simp
theorem plan_sized {ls : List LakeM} {L H : Nat} {ti : List (List Int)} {pr en : List Int} (hp : PlanOk ls L H ti pr en) : sizedB L ti = true ∧ ls.all lakeB = true ∧ comeB ti = true ∧ (pr.all fun x => withinB x 0 1000) = true ∧ (en.all fun x => withinB x 0 1000) = true := by
  refine ⟨sized_iff.2 ⟨hp.L2, by rw [hp.t]; exact hp.H8, hp.tr⟩, List.all_eq_true.2 fun k hk => lakeB_iff.2 (hp.ok k hk), come_iff.2 hp.ti, List.all_eq_true.2 fun x hx => ?_, List.all_eq_true.2 fun x hx => ?_⟩
  · have := hp.pb x hx
    simp [withinB, this]
  · have := hp.eb x hx
    simp [withinB, this]
/-- What Best answers where all is well. -/
def BestG (ls : List LakeM) (L H : Nat) (ti : List (List Int)) (pr en : List Int) (W : World) (e : Ending) (w' : World) : Prop := ∃ v, e = .returned (.tuple #[v, .int .i64 (lookD ls L ti pr en H 0 (startS ls L)).1, .int .i64 0]) ∧ StepsAt w' W.heap.size v (planK ls L H ti pr en H).2 ∧ Below W.heap.size W w'
set_option maxRecDepth 100000 in
set_option maxHeartbeats 4000000 in
theorem Best_ok {ls : List LakeM} {L H : Nat} {ti : List (List Int)} {pr en : List Int} {al ai ap ae : Option Addr} {cl ci cp ce : Nat} (hp : PlanOk ls L H ti pr en) (W : World) (h1 : RowAt W (.slice al L cl) ls.length 5 (ls.flatMap LakeM.cells)) (h2 : TabAt W (.slice ai H ci) ti) (h3 : RowAt W (.slice ap H cp) H 1 (ints pr)) (h4 : RowAt W (.slice ae L ce) L 1 (ints en)) :
    Calls Try.prog 27 #[.slice al L cl, .slice ai H ci, .slice ap H cp, .slice ae L ce] W (BestG ls L H ti pr en W) := by
  obtain ⟨s1, s2, s3, s4, s5⟩ := plan_sized hp
  have hH8 := hp.H8
  have hL2 := hp.L2
  have el := hp.l
  have et := hp.t
  have epr := hp.p
  have een := hp.e
  have HS1 : Hid (∀ Wz, Below W.heap.size W Wz → Calls Try.prog 36 #[.slice al L cl, .slice ai H ci] Wz fun e w' => e = .returned (.bool true) ∧ Below Wz.heap.size Wz w') := fun Wz hb => by
    have h := sized_any L al cl ti (.slice ai H ci) Wz (h2.below hb (Nat.le_refl _)) (by omega) (by omega)
    rw [s1] at h; exact h
  have HAL : Hid (∀ Wz, Below W.heap.size W Wz → Calls Try.prog 37 #[.slice al L cl, .func (.func 38) #[] #[]] Wz fun e w' => e = .returned (.bool true) ∧ Below Wz.heap.size Wz w') := fun Wz hb => by
    have h := allLake_any ls (.slice al L cl) Wz (h1.below hb (Nat.le_refl _)) (by omega)
    rw [s2] at h; exact h
  have HCO : Hid (∀ Wz, Below W.heap.size W Wz → Calls Try.prog 39 #[.slice ai H ci] Wz fun e w' => e = .returned (.bool true) ∧ Below Wz.heap.size Wz w') := fun Wz hb => by
    have h := mayCome_any ti (.slice ai H ci) Wz (h2.below hb (Nat.le_refl _)) (by omega) (fun l hl => by rw [hp.tr l hl]; omega)
    rw [s3] at h; exact h
  have HPR : Hid (∀ Wz, Below W.heap.size W Wz → Calls Try.prog 46 #[.slice ap H cp, .func (.func 47) #[] #[]] Wz fun e w' => e = .returned (.bool true) ∧ w' = Wz) := fun Wz hb => by
    have h := allInt_any (fun x => withinB x 0 1000) 47 cfw25 pr (.slice ap H cp) Wz (by rw [epr]; exact h3.below hb (Nat.le_refl _)) (by omega) worth_any
    rw [s4] at h; exact h
  have HEN : Hid (∀ Wz, Below W.heap.size W Wz → Calls Try.prog 46 #[.slice ae L ce, .func (.func 47) #[] #[]] Wz fun e w' => e = .returned (.bool true) ∧ w' = Wz) := fun Wz hb => by
    have h := allInt_any (fun x => withinB x 0 1000) 47 cfw25 en (.slice ae L ce) Wz (by rw [een]; exact h4.below hb (Nat.le_refl _)) (by omega) worth_any
    rw [s5] at h; exact h
  have HDR := hide' (draft_any al ai ap ae L H cl ci cp ce)
  have HBS : Hid (∀ M clock Wz, Below W.heap.size W Wz → Wz.heap[M]? = some (.map #[] clock) → Calls Try.prog 49 #[.agg #[.slice al L cl, .slice ai H ci, .slice ap H cp, .slice ae L ce, .map (some M)]] Wz (BestO ls L H ti pr en M Wz)) := fun M clock Wz hb hm => best_any hp Wz ⟨h1.below hb (Nat.le_refl _), h2.below hb (Nat.le_refl _), h3.below hb (Nat.le_refl _), h4.below hb (Nat.le_refl _), #[], clock, hm, fun e he => by simp at he⟩
  have HBG : Hid (∀ e w' v, e = .returned (.tuple #[v, .int .i64 (lookD ls L ti pr en H 0 (startS ls L)).1, .int .i64 0]) → StepsAt w' W.heap.size v (planK ls L H ti pr en H).2 → Below W.heap.size W w' → BestG ls L H ti pr en W e w') := fun e w' v h1 h2 h3 => ⟨v, h1, h2, h3⟩
  obtain ⟨PO, hPO⟩ : ∃ P, P = BestG ls L H ti pr en W := ⟨_, rfl⟩
  rw [← hPO] at HBG ⊢
  have hn1 : ((H : Int) != (H : Int)) = false := by simp
  have hn2 : ((L : Int) != (L : Int)) = false := by simp
  clear hPO h1 h2 h3 h4 s1 s2 s3 s4 s5 hp el et epr een
  go_enter Try.func27, Try.ntmps27
  go_wp2_with fail
  refine (HS1.out W (Below.refl _ W)).mono ?_
  rintro e w1 ⟨rfl, hb1⟩
  have HB1 := hide' hb1
  clear hb1 HS1
  go_wp2_with fail
  refine (HAL.out w1 HB1.out).mono ?_
  rintro e w2 ⟨rfl, hb2⟩
  have HB2 := hide' (HB1.out.trans (hb2.mono HB1.out.size))
  clear hb2 HAL HB1
  go_wp2_with fail
  refine (HCO.out w2 HB2.out).mono ?_
  rintro e w3 ⟨rfl, hb3⟩
  have HB3 := hide' (HB2.out.trans (hb3.mono HB2.out.size))
  clear hb3 HCO HB2
  go_wp2_with fail
  refine (HPR.out w3 HB3.out).mono ?_
  rintro e w4 ⟨rfl, hw4⟩
  obtain rfl := hw4.symm
  clear HPR
  go_wp2_with fail
  refine (HEN.out _ HB3.out).mono ?_
  rintro e w5 ⟨rfl, hw5⟩
  obtain rfl := hw5.symm
  clear HEN
  go_wp2_with fail
  refine (HDR.out _).mono ?_
  rintro e w6 ⟨M, clock, rfl, hM, hm6, hb6⟩
  have HB6 := hide' (HB3.out.trans (hb6.mono HB3.out.size))
  have HMW : Hid (W.heap.size ≤ M) := Nat.le_trans HB3.out.size hM
  have HBX := hide' (HBS.out M clock w6 HB6.out hm6)
  clear hM hm6 hb6 HB3 HDR HBS
  go_wp2_with fail
  refine HBX.out.mono ?_
  rintro e w7 ⟨v, rfl, hst, hbt⟩
  have HFN : Hid (∀ e v', e = .returned (.tuple #[v', .int .i64 (lookD ls L ti pr en H 0 (startS ls L)).1, .int .i64 0]) → v' = v → PO e w7) := fun e v' h1 h2 => by
    subst h2
    obtain ⟨vals, g1, g2, g3⟩ := hst
    refine HBG.out e w7 v' h1 ⟨vals, g1, own_mono g2 HB6.out.size, fun j x l hx hl => own_mono (g3 j x l hx hl) HB6.out.size⟩ ?_
    exact ⟨hbt.os.trans HB6.out.os, hbt.tape.trans HB6.out.tape, hbt.output.trans HB6.out.output, Nat.le_trans HB6.out.size hbt.size, fun k hk => (hbt.block k (Nat.lt_of_lt_of_le hk HB6.out.size) (by have := HMW.out; omega)).trans (HB6.out.block k hk)⟩
  clear hst hbt HBX
  go_wp2_with fail
  first
  | exact HFN.out _ _ rfl rfl
  | (go_ret3
     exact HFN.out _ _ rfl rfl)
end Go.Proofs.Ytnhddmcdmcpkeaj
