/- ahead, at the end. -/
import Derived.Test.YtnhddmcdmcpkeajV6
namespace Go.Proofs.Ytnhddmcdmcpkeaj
open Go.RowKit Go.Shelf Go.ChangeMaps

theorem set_three {w : World} {A t : Nat} {c0 c1 c2 : Value} (h : w.heap[A]? = some (.cells #[c0, c1, c2] t (0, 0))) (x0 x1 x2 : Value) : (((w.setCell ⟨A, 0, none⟩ x0).setCell ⟨A, 1, none⟩ x1).setCell ⟨A, 2, none⟩ x2).heap[A]? = some (.cells #[x0, x1, x2] t (0, 0)) := by
  have h1 := set_any (set_any (set_any h 0 x0) 1 x1) 2 x2
  rw [h1]
  rfl
set_option maxRecDepth 100000 in
set_option maxHeartbeats 4000000 in
theorem ahead_zero {ls : List LakeM} {L H : Nat} {ti : List (List Int)} {pr en : List Int} {al ai ap ae : Option Addr} {cl ci cp ce M : Nat} (hp : PlanOk ls L H ti pr en) : AheadGood ls L H ti pr en al ai ap ae cl ci cp ce M 0 := by
  intro h s W hh g he
  have HE := hide' he
  have gb := good_bounds hp.ok hp.l g
  have HK : Hid (∀ W', Below W.heap.size W W' → Calls Try.prog 72 #[.agg #[.slice al L cl, .slice ai H ci, .slice ap H cp, .slice ae L ce, .map (some M)], .agg #[.int .i64 s.l0, .int .i64 s.l1]] W' fun e w' => e = .returned (.int .i64 (keptK en s.l0 s.l1 L)) ∧ Below W'.heap.size W' w') := fun W' hb => kept_any en ae L ce _ _ _ _ s.l0 s.l1 W' (he.last.below hb (Nat.le_refl _)) hp.e hp.L2 hp.eb ⟨gb.1.1, gb.1.2.1⟩ ⟨gb.1.2.2.1, gb.1.2.2.2⟩
  have HV : Hid (outS (lookD ls L ti pr en 0 h s) = .agg #[.int .i64 (keptK en s.l0 s.l1 L), .int .i64 0, .int .i64 0]) := rfl
  obtain ⟨v, hv⟩ : ∃ v, v = keptK en s.l0 s.l1 L := ⟨_, rfl⟩
  rw [← hv] at HK HV
  obtain ⟨o, ho⟩ : ∃ o, o = outS (lookD ls L ti pr en 0 h s) := ⟨_, rfl⟩
  rw [← ho] at HV ⊢
  obtain ⟨s0, s1, s2, s3⟩ := s
  rw [show momS h ⟨s0, s1, s2, s3⟩ = .agg #[.int .i64 h, .int .i64 s0, .int .i64 s1, .int .i64 s2, .int .i64 s3] from rfl]
  have hh2 : H = h := by omega
  subst hh2
  clear hv ho he gb hh hp g
  go_enter Try.func68, Try.ntmps68
  go_upto_region 1 with fail
  have hqP := (alloc_old ((W.alloc (.cells #[.slice al L cl, .slice ai H ci, .slice ap H cp, .slice ae L ce, .map (some M)] 88)).alloc (.cells #[.int .i64 H, .int .i64 s0, .int .i64 s1, .int .i64 s2, .int .i64 s3] 129)) (.cells #[.int .i64 0, .int .i64 0, .int .i64 0] 131) (lt_heap ((alloc_old (W.alloc (.cells #[.slice al L cl, .slice ai H ci, .slice ap H cp, .slice ae L ce, .map (some M)] 88)) (.cells #[.int .i64 H, .int .i64 s0, .int .i64 s1, .int .i64 s2, .int .i64 s3] 129) (lt_heap (alloc_new W (.cells #[.slice al L cl, .slice ai H ci, .slice ap H cp, .slice ae L ce, .map (some M)] 88)))).trans (alloc_new W (.cells #[.slice al L cl, .slice ai H ci, .slice ap H cp, .slice ae L ce, .map (some M)] 88))))).trans ((alloc_old (W.alloc (.cells #[.slice al L cl, .slice ai H ci, .slice ap H cp, .slice ae L ce, .map (some M)] 88)) (.cells #[.int .i64 H, .int .i64 s0, .int .i64 s1, .int .i64 s2, .int .i64 s3] 129) (lt_heap (alloc_new W (.cells #[.slice al L cl, .slice ai H ci, .slice ap H cp, .slice ae L ce, .map (some M)] 88)))).trans (alloc_new W (.cells #[.slice al L cl, .slice ai H ci, .slice ap H cp, .slice ae L ce, .map (some M)] 88)))
  have hqQ := (alloc_old ((W.alloc (.cells #[.slice al L cl, .slice ai H ci, .slice ap H cp, .slice ae L ce, .map (some M)] 88)).alloc (.cells #[.int .i64 H, .int .i64 s0, .int .i64 s1, .int .i64 s2, .int .i64 s3] 129)) (.cells #[.int .i64 0, .int .i64 0, .int .i64 0] 131) (lt_heap (alloc_new (W.alloc (.cells #[.slice al L cl, .slice ai H ci, .slice ap H cp, .slice ae L ce, .map (some M)] 88)) (.cells #[.int .i64 H, .int .i64 s0, .int .i64 s1, .int .i64 s2, .int .i64 s3] 129)))).trans (alloc_new (W.alloc (.cells #[.slice al L cl, .slice ai H ci, .slice ap H cp, .slice ae L ce, .map (some M)] 88)) (.cells #[.int .i64 H, .int .i64 s0, .int .i64 s1, .int .i64 s2, .int .i64 s3] 129))
  have hqS := alloc_new ((W.alloc (.cells #[.slice al L cl, .slice ai H ci, .slice ap H cp, .slice ae L ce, .map (some M)] 88)).alloc (.cells #[.int .i64 H, .int .i64 s0, .int .i64 s1, .int .i64 s2, .int .i64 s3] 129)) (.cells #[.int .i64 0, .int .i64 0, .int .i64 0] 131)
  have hb1 := ((below_al W (.cells #[.slice al L cl, .slice ai H ci, .slice ap H cp, .slice ae L ce, .map (some M)] 88)).alloc (below_al W (.cells #[.slice al L cl, .slice ai H ci, .slice ap H cp, .slice ae L ce, .map (some M)] 88)).size (.cells #[.int .i64 H, .int .i64 s0, .int .i64 s1, .int .i64 s2, .int .i64 s3] 129)).alloc ((below_al W (.cells #[.slice al L cl, .slice ai H ci, .slice ap H cp, .slice ae L ce, .map (some M)] 88)).alloc (below_al W (.cells #[.slice al L cl, .slice ai H ci, .slice ap H cp, .slice ae L ce, .map (some M)] 88)).size (.cells #[.int .i64 H, .int .i64 s0, .int .i64 s1, .int .i64 s2, .int .i64 s3] 129)).size (.cells #[.int .i64 0, .int .i64 0, .int .i64 0] 131)
  rw [show (W.alloc (.cells #[.slice al L cl, .slice ai H ci, .slice ap H cp, .slice ae L ce, .map (some M)] 88)).heap.size = W.heap.size + 1 from by simp only [World.size_alloc]] at hqQ
  rw [show ((W.alloc (.cells #[.slice al L cl, .slice ai H ci, .slice ap H cp, .slice ae L ce, .map (some M)] 88)).alloc (.cells #[.int .i64 H, .int .i64 s0, .int .i64 s1, .int .i64 s2, .int .i64 s3] 129)).heap.size = W.heap.size + 1 + 1 from by simp only [World.size_alloc]] at hqS
  obtain ⟨w1, hw1⟩ : ∃ x, x = (((W.alloc (.cells #[.slice al L cl, .slice ai H ci, .slice ap H cp, .slice ae L ce, .map (some M)] 88)).alloc (.cells #[.int .i64 H, .int .i64 s0, .int .i64 s1, .int .i64 s2, .int .i64 s3] 129)).alloc (.cells #[.int .i64 0, .int .i64 0, .int .i64 0] 131)) := ⟨_, rfl⟩
  rw [← hw1] at hqP hqQ hqS hb1 ⊢
  obtain ⟨P, hnP⟩ : ∃ x, x = W.heap.size := ⟨_, rfl⟩
  obtain ⟨Q, hnQ⟩ : ∃ x, x = W.heap.size + 1 := ⟨_, rfl⟩
  obtain ⟨S, hnS⟩ : ∃ x, x = W.heap.size + 1 + 1 := ⟨_, rfl⟩
  have HNE : Hid (W.heap.size ≤ P ∧ W.heap.size ≤ Q ∧ W.heap.size ≤ S ∧ P ≠ Q ∧ P ≠ S ∧ Q ≠ S) := ⟨by omega, by omega, by omega, by omega, by omega, by omega⟩
  rw [← hnP] at hqP
  rw [← hnQ] at hqQ
  rw [← hnS] at hqS
  rw [show (Value.pointer (some { block := W.heap.size, off := 0 })) = Value.pointer (some { block := P, off := 0 }) by rw [hnP], show (Value.pointer (some { block := W.heap.size + 1, off := 0 })) = Value.pointer (some { block := Q, off := 0 }) by rw [hnQ], show (Value.pointer (some { block := W.heap.size + 1 + 1, off := 0 })) = Value.pointer (some { block := S, off := 0 }) by rw [hnS]]
  have HQP := hide' hqP
  have HQQ := hide' hqQ
  have HQS := hide' hqS
  have HB1 := hide' hb1
  clear hqP hqQ hqS hb1 hw1 hnP hnQ hnS
  have p0 : w1.cell? ⟨P, 0, none⟩ = some (.slice al L cl) := (cells_at HQP.out 0).trans rfl
  have p1 : w1.cell? ⟨P, 1, none⟩ = some (.slice ai H ci) := (cells_at HQP.out 1).trans rfl
  have p2 : w1.cell? ⟨P, 2, none⟩ = some (.slice ap H cp) := (cells_at HQP.out 2).trans rfl
  have p3 : w1.cell? ⟨P, 3, none⟩ = some (.slice ae L ce) := (cells_at HQP.out 3).trans rfl
  have p4 : w1.cell? ⟨P, 4, none⟩ = some (.map (some M)) := (cells_at HQP.out 4).trans rfl
  have q0 : w1.cell? ⟨Q, 0, none⟩ = some (.int .i64 H) := (cells_at HQQ.out 0).trans rfl
  have q1 : w1.cell? ⟨Q, 1, none⟩ = some (.int .i64 s0) := (cells_at HQQ.out 1).trans rfl
  have q2 : w1.cell? ⟨Q, 2, none⟩ = some (.int .i64 s1) := (cells_at HQQ.out 2).trans rfl
  go_wp2_with fail
  refine (HK.out w1 HB1.out).mono ?_
  rintro e w2 ⟨rfl, hb2⟩
  have hs2 : w2.heap[S]? = some (.cells #[.int .i64 0, .int .i64 0, .int .i64 0] 131 (0, 0)) := (hb2.block S (lt_heap HQS.out)).trans HQS.out
  have HB2 := hide' (HB1.out.trans (hb2.mono HB1.out.size))
  have z0 : w2.cell? ⟨S, 0, none⟩ = some (.int .i64 0) := (cells_at hs2 0).trans rfl
  have z1 : w2.cell? ⟨S, 1, none⟩ = some (.int .i64 0) := (cells_at hs2 1).trans rfl
  have z2 : w2.cell? ⟨S, 2, none⟩ = some (.int .i64 0) := (cells_at hs2 2).trans rfl
  have t0 := frozen_no hs2 0
  have t1 := frozen_no hs2 1
  have t2 := frozen_no hs2 2
  have HF := hide' (set_three hs2 (.int .i64 v) (.int .i64 0) (.int .i64 0))
  have HSS : Hid (W.heap.size ≤ S) := HNE.out.2.2.1
  have HBF : Hid (∀ v0 v1 v2, Below W.heap.size W (((w2.setCell ⟨S, 0, none⟩ v0).setCell ⟨S, 1, none⟩ v1).setCell ⟨S, 2, none⟩ v2)) := fun v0 v1 v2 => ((HB2.out.setCell (p := ⟨S, 0, none⟩) HSS.out v0).setCell (p := ⟨S, 1, none⟩) HSS.out v1).setCell (p := ⟨S, 2, none⟩) HSS.out v2
  clear hb2 hs2 p0 p1 p2 p3 p4 q0 q1 q2
  go_wp2_with fail
  refine bodyPost_ret (results_cell_row rfl _ _ S 131 _ (0, 0) _ rfl HF.out Try.underlying131 rfl (by kernel_rfl)) rfl ?_
  exact ⟨by rw [HV.out], But.of (HBF.out _ _ _), HE.out.below (HBF.out _ _ _)⟩
end Go.Proofs.Ytnhddmcdmcpkeaj
