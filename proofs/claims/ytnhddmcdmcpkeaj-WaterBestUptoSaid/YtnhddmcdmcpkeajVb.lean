/- best. -/
import Derived.Test.YtnhddmcdmcpkeajV9
namespace Go.Proofs.Ytnhddmcdmcpkeaj
open Go.RowKit Go.Shelf Go.ChangeMaps

/-- What best answers. -/
def BestO (ls : List LakeM) (L H : Nat) (ti : List (List Int)) (pr en : List Int) (M : Nat) (W : World) (e : Ending) (w' : World) : Prop := ∃ v, e = .returned (.tuple #[v, .int .i64 (lookD ls L ti pr en H 0 (startS ls L)).1]) ∧ StepsAt w' W.heap.size v (planK ls L H ti pr en H).2 ∧ But M W w'
set_option maxRecDepth 100000 in
set_option maxHeartbeats 8000000 in
theorem best_any {ls : List LakeM} {L H : Nat} {ti : List (List Int)} {pr en : List Int} {al ai ap ae : Option Addr} {cl ci cp ce M : Nat} (hp : PlanOk ls L H ti pr en) (W : World) (he : PEnv W ls L H ti pr en al ai ap ae cl ci cp ce M) : Calls Try.prog 49 #[.agg #[.slice al L cl, .slice ai H ci, .slice ap H cp, .slice ae L ce, .map (some M)]] W (BestO ls L H ti pr en M W) := by
  obtain ⟨i23, hi23, h230, h231, h232⟩ := info_parts Try.info39'
  have HE := hide' he
  have HP := hide' hp
  have hH8 := hp.H8
  have hL2 := hp.L2
  have HST : Hid (∀ Wz, PEnv Wz ls L H ti pr en al ai ap ae cl ci cp ce M → Calls Try.prog 61 #[.agg #[.slice al L cl, .slice ai H ci]] Wz fun e w' => e = .returned (.agg (startS ls L).cells) ∧ Below Wz.heap.size Wz w') := fun Wz hz => start_any ls al L cl (.slice ai H ci) Wz hz.lakes hp.l hp.L2
  have HAH : Hid (∀ k s Wz, k ≤ H → Good ls L s → PEnv Wz ls L H ti pr en al ai ap ae cl ci cp ce M → Calls Try.prog 68 #[.agg #[.slice al L cl, .slice ai H ci, .slice ap H cp, .slice ae L ce, .map (some M)], momS k s] Wz fun e w' => e = .returned (outS (lookD ls L ti pr en (H - k) k s)) ∧ But M Wz w' ∧ PEnv w' ls L H ti pr en al ai ap ae cl ci cp ce M) := fun k s Wz hk g hz => ahead_all hp (H - k) k s Wz (by omega) g hz
  have HG0 : Hid (Good ls L (startS ls L)) := good_start hp.ok hp.l
  have HBO : Hid (∀ e w' v, e = .returned (.tuple #[v, .int .i64 (lookD ls L ti pr en H 0 (startS ls L)).1]) → StepsAt w' W.heap.size v (planK ls L H ti pr en H).2 → But M W w' → BestO ls L H ti pr en M W e w') := fun e w' v h1 h2 h3 => ⟨v, h1, h2, h3⟩
  have HA0 := hide' (fun Wz => HAH.out 0 (startS ls L) Wz (Nat.zero_le _) HG0.out)
  rw [Nat.sub_zero] at HA0
  obtain ⟨o0, ho0⟩ : ∃ o, o = lookD ls L ti pr en H 0 (startS ls L) := ⟨_, rfl⟩
  rw [← ho0] at HA0 HBO
  obtain ⟨ox, oa, ob⟩ := o0
  rw [show outS (ox, ⟨oa, ob⟩) = .agg #[.int .i64 ox, .int .i64 oa, .int .i64 ob] from rfl] at HA0
  simp only at HBO
  obtain ⟨PO, hPO⟩ : ∃ P, P = BestO ls L H ti pr en M W := ⟨_, rfl⟩
  rw [← hPO] at HBO ⊢
  obtain ⟨ss, hss⟩ : ∃ s, s = startS ls L := ⟨_, rfl⟩
  have HPK0 : Hid (planK ls L H ti pr en 0 = (ss, [])) := by rw [hss]; exact rfl
  rw [← hss] at HST HA0 HG0
  obtain ⟨a0, a1, a2, a3⟩ := ss
  rw [show Stnd.cells ⟨a0, a1, a2, a3⟩ = #[.int .i64 a0, .int .i64 a1, .int .i64 a2, .int .i64 a3] from rfl] at HST
  rw [show momS 0 ⟨a0, a1, a2, a3⟩ = .agg #[.int .i64 0, .int .i64 a0, .int .i64 a1, .int .i64 a2, .int .i64 a3] from rfl] at HA0
  clear ho0 hPO hss he hp
  go_enter Try.func49, Try.ntmps49
  go_upto_region 1 with fail
  have hqP := alloc_new W (.cells #[.slice al L cl, .slice ai H ci, .slice ap H cp, .slice ae L ce, .map (some M)] 88)
  have hb1 := below_al W (.cells #[.slice al L cl, .slice ai H ci, .slice ap H cp, .slice ae L ce, .map (some M)] 88)
  obtain ⟨w1, hw1⟩ : ∃ x, x = (W.alloc (.cells #[.slice al L cl, .slice ai H ci, .slice ap H cp, .slice ae L ce, .map (some M)] 88)) := ⟨_, rfl⟩
  rw [← hw1] at hqP hb1 ⊢
  obtain ⟨P, hnP⟩ : ∃ x, x = W.heap.size := ⟨_, rfl⟩
  have HNE : Hid (W.heap.size ≤ P) := by show _ ≤ _; omega
  rw [← hnP] at hqP
  rw [show (Value.pointer (some { block := W.heap.size, off := 0 })) = Value.pointer (some { block := P, off := 0 }) by rw [hnP]]
  have HQP := hide' hqP
  have HB1 := hide' hb1
  clear hqP hb1 hw1 hnP
  have HE1 := hide' (HE.out.below HB1.out)
  have p0 : w1.cell? ⟨P, 0, none⟩ = some (.slice al L cl) := (cells_at HQP.out 0).trans rfl
  have p1 : w1.cell? ⟨P, 1, none⟩ = some (.slice ai H ci) := (cells_at HQP.out 1).trans rfl
  have p2 : w1.cell? ⟨P, 2, none⟩ = some (.slice ap H cp) := (cells_at HQP.out 2).trans rfl
  have p3 : w1.cell? ⟨P, 3, none⟩ = some (.slice ae L ce) := (cells_at HQP.out 3).trans rfl
  have p4 : w1.cell? ⟨P, 4, none⟩ = some (.map (some M)) := (cells_at HQP.out 4).trans rfl
  have HS1 := hide' (HST.out w1 HE1.out)
  go_wp2_with fail
  refine HS1.out.mono ?_
  rintro e w2 ⟨rfl, hb2⟩
  have HBW2 := hide' (HB1.out.trans (hb2.mono HB1.out.size))
  have HE2 := hide' (HE1.out.below hb2)
  have HP2 : Hid (w2.heap[P]? = some (.cells #[.slice al L cl, .slice ai H ci, .slice ap H cp, .slice ae L ce, .map (some M)] 88 (0, 0))) := (hb2.block P (lt_heap HQP.out)).trans HQP.out
  have HPW : Hid (W.heap.size ≤ P) := HNE.out
  clear hb2 p0 p1 p2 p3 p4 HE1 HS1 HNE HB1 HQP
  go_upto_region 2 with fail
  have hqT := alloc_new w2 (.cells #[.int .i64 0, .int .i64 a0, .int .i64 a1, .int .i64 a2, .int .i64 a3] 129)
  have hb1 := below_al w2 (.cells #[.int .i64 0, .int .i64 a0, .int .i64 a1, .int .i64 a2, .int .i64 a3] 129)
  obtain ⟨w3, hw1⟩ : ∃ x, x = (w2.alloc (.cells #[.int .i64 0, .int .i64 a0, .int .i64 a1, .int .i64 a2, .int .i64 a3] 129)) := ⟨_, rfl⟩
  rw [← hw1] at hqT hb1 ⊢
  obtain ⟨T, hnT⟩ : ∃ x, x = w2.heap.size := ⟨_, rfl⟩
  have HNE : Hid (w2.heap.size ≤ T) := by show _ ≤ _; omega
  rw [← hnT] at hqT
  rw [show (Value.pointer (some { block := w2.heap.size, off := 0 })) = Value.pointer (some { block := T, off := 0 }) by rw [hnT]]
  have HQT := hide' hqT
  have HB1 := hide' hb1
  clear hqT hb1 hw1 hnT
  have HBW3 := hide' (HBW2.out.trans (HB1.out.mono HBW2.out.size))
  have HE3 := hide' (HE2.out.below HB1.out)
  have HP3 : Hid (w3.heap[P]? = some (.cells #[.slice al L cl, .slice ai H ci, .slice ap H cp, .slice ae L ce, .map (some M)] 88 (0, 0))) := (HB1.out.block P (lt_heap HP2.out)).trans HP2.out
  have HPT : Hid (P ≠ T) := by have := lt_heap HP2.out; have := HNE.out; show P ≠ T; omega
  have HTW : Hid (W.heap.size ≤ T) := Nat.le_trans HBW2.out.size HNE.out
  have p0 : w3.cell? ⟨P, 0, none⟩ = some (.slice al L cl) := (cells_at HP3.out 0).trans rfl
  have p1 : w3.cell? ⟨P, 1, none⟩ = some (.slice ai H ci) := (cells_at HP3.out 1).trans rfl
  have p2 : w3.cell? ⟨P, 2, none⟩ = some (.slice ap H cp) := (cells_at HP3.out 2).trans rfl
  have p3 : w3.cell? ⟨P, 3, none⟩ = some (.slice ae L ce) := (cells_at HP3.out 3).trans rfl
  have p4 : w3.cell? ⟨P, 4, none⟩ = some (.map (some M)) := (cells_at HP3.out 4).trans rfl
  have q0 : w3.cell? ⟨T, 0, none⟩ = some (.int .i64 0) := (cells_at HQT.out 0).trans rfl
  have q1 : w3.cell? ⟨T, 1, none⟩ = some (.int .i64 a0) := (cells_at HQT.out 1).trans rfl
  have q2 : w3.cell? ⟨T, 2, none⟩ = some (.int .i64 a1) := (cells_at HQT.out 2).trans rfl
  have q3 : w3.cell? ⟨T, 3, none⟩ = some (.int .i64 a2) := (cells_at HQT.out 3).trans rfl
  have q4 : w3.cell? ⟨T, 4, none⟩ = some (.int .i64 a3) := (cells_at HQT.out 4).trans rfl
  have HA1 := hide' (HA0.out w3 HE3.out)
  go_wp2_with fail
  refine HA1.out.mono ?_
  rintro e w4 ⟨rfl, hbt4, hen4⟩
  have HB0 : Hid (BSt W w3 ls L H ti pr en M P T #[.slice al L cl, .slice ai H ci, .slice ap H cp, .slice ae L ce, .map (some M)] #[.int .i64 0, .int .i64 a0, .int .i64 a1, .int .i64 a2, .int .i64 a3] (.slice none 0 0) []) := ⟨HP3.out, HQT.out, HTW.out, HPW.out, StepsAt.nil _ _, But.of HBW3.out, HE3.out.known⟩
  have HB4 := hide' (HB0.out.more hbt4 hen4.known)
  have hf0 := fun w => field90 ox oa ob w
  clear hbt4 hen4 p0 p1 p2 p3 p4 q0 q1 q2 q3 q4 HB0 HA1 HE3 HP3 HQT HBW3 HB1 HNE HE2 HP2 HBW2
  go_wp2_with fail
  clear hf0
  go_loopg [6] H (fun g tv wr => ∃ (k : Nat) (s0 s1 s2 s3 : Int) (rel : List (List Int)), H - k ≤ g ∧ k ≤ H ∧ Hid (planK ls L H ti pr en k = (⟨s0, s1, s2, s3⟩, rel)) ∧ Hid (BSt W wr ls L H ti pr en M P T #[.slice al L cl, .slice ai H ci, .slice ap H cp, .slice ae L ce, .map (some M)] #[.int .i64 (k : Int), .int .i64 s0, .int .i64 s1, .int .i64 s2, .int .i64 s3] tv rel))
  case atStart => exact ⟨0, a0, a1, a2, a3, [], by omega, Nat.zero_le _, HPK0, HB4⟩
  case round =>
    clear HB4 HPK0 HA0 HST HG0
    obtain ⟨k, s0, s1, s2, s3, rel, hg, hk, HPK, HB⟩ := hrel
    have g : Good ls L ⟨s0, s1, s2, s3⟩ := by have h := plan_good HP.out k hk; rw [HPK.out] at h; exact h
    have HG := hide' g
    have p0 : wr.cell? ⟨P, 0, none⟩ = some (.slice al L cl) := (cells_at HB.out.hP 0).trans rfl
    have p1 : wr.cell? ⟨P, 1, none⟩ = some (.slice ai H ci) := (cells_at HB.out.hP 1).trans rfl
    have p2 : wr.cell? ⟨P, 2, none⟩ = some (.slice ap H cp) := (cells_at HB.out.hP 2).trans rfl
    have p3 : wr.cell? ⟨P, 3, none⟩ = some (.slice ae L ce) := (cells_at HB.out.hP 3).trans rfl
    have p4 : wr.cell? ⟨P, 4, none⟩ = some (.map (some M)) := (cells_at HB.out.hP 4).trans rfl
    have q0 : wr.cell? ⟨T, 0, none⟩ = some (.int .i64 (k : Int)) := (cells_at HB.out.hT 0).trans rfl
    have q1 : wr.cell? ⟨T, 1, none⟩ = some (.int .i64 s0) := (cells_at HB.out.hT 1).trans rfl
    have q2 : wr.cell? ⟨T, 2, none⟩ = some (.int .i64 s1) := (cells_at HB.out.hT 2).trans rfl
    have q3 : wr.cell? ⟨T, 3, none⟩ = some (.int .i64 s2) := (cells_at HB.out.hT 3).trans rfl
    have q4 : wr.cell? ⟨T, 4, none⟩ = some (.int .i64 s3) := (cells_at HB.out.hT 4).trans rfl
    by_cases hlt : k < H
    · have HA2 := hide' (HAH.out k ⟨s0, s1, s2, s3⟩ wr hk g (HB.out.env HE.out))
      have HPN : Hid (planK ls L H ti pr en (k + 1) = (next2 ls L (fullH L ti k ⟨s0, s1, s2, s3⟩) (lookD ls L ti pr en (H - k) k ⟨s0, s1, s2, s3⟩).2, rel ++ [listOf (lookD ls L ti pr en (H - k) k ⟨s0, s1, s2, s3⟩).2.a (lookD ls L ti pr en (H - k) k ⟨s0, s1, s2, s3⟩).2.b L])) := by
        show (next2 ls L (fullH L ti k (planK ls L H ti pr en k).1) (lookD ls L ti pr en (H - k) k (planK ls L H ti pr en k).1).2, (planK ls L H ti pr en k).2 ++ _) = _
        rw [HPK.out]
      have HFT : Hid (Fit ls L (fullH L ti k ⟨s0, s1, s2, s3⟩) (lookD ls L ti pr en (H - k) k ⟨s0, s1, s2, s3⟩).2) := by
        have e : H - k = (H - k - 1) + 1 := by omega
        rw [e]
        exact look_fit HP.out (by omega) g
      obtain ⟨o, ho⟩ : ∃ o, o = lookD ls L ti pr en (H - k) k ⟨s0, s1, s2, s3⟩ := ⟨_, rfl⟩
      rw [← ho] at HA2 HPN HFT
      obtain ⟨vx, ra, rb⟩ := o
      rw [show outS (vx, ⟨ra, rb⟩) = .agg #[.int .i64 vx, .int .i64 ra, .int .i64 rb] from rfl, show momS k ⟨s0, s1, s2, s3⟩ = .agg #[.int .i64 (k : Int), .int .i64 s0, .int .i64 s1, .int .i64 s2, .int .i64 s3] from rfl] at HA2
      simp only at HPN HFT
      have hf1 := fun w => field90' vx ra rb w
      clear ho g
      go_wp2_with fail
      refine HA2.out.mono ?_
      rintro e w5 ⟨rfl, hbt5, hen5⟩
      have HB5 := hide' (HB.out.more hbt5 hen5.known)
      clear hbt5 hen5 p0 p1 p2 p3 p4 q0 q1 q2 q3 q4 HB HA2
      go_upto_region 6 with fail
      clear hf1
      have hqR := alloc_new w5 (.cells #[.int .i64 ra, .int .i64 rb] 117)
      have hb1 := below_al w5 (.cells #[.int .i64 ra, .int .i64 rb] 117)
      obtain ⟨w6, hw1⟩ : ∃ x, x = (w5.alloc (.cells #[.int .i64 ra, .int .i64 rb] 117)) := ⟨_, rfl⟩
      rw [← hw1] at hqR hb1 ⊢
      obtain ⟨R, hnR⟩ : ∃ x, x = w5.heap.size := ⟨_, rfl⟩
      have HNE : Hid (w5.heap.size ≤ R) := by show _ ≤ _; omega
      rw [← hnR] at hqR
      rw [show (Value.pointer (some { block := w5.heap.size, off := 0 })) = Value.pointer (some { block := R, off := 0 }) by rw [hnR]]
      have HQR := hide' hqR
      have HB1 := hide' hb1
      clear hqR hb1 hw1 hnR
      have HB6 := hide' (HB5.out.below HB1.out)
      have HWR : Hid (w5.heap.size ≤ R) := HNE.out
      have p0 : w6.cell? ⟨P, 0, none⟩ = some (.slice al L cl) := (cells_at HB6.out.hP 0).trans rfl
      have r0 : w6.cell? ⟨R, 0, none⟩ = some (.int .i64 ra) := (cells_at HQR.out 0).trans rfl
      have r1 : w6.cell? ⟨R, 1, none⟩ = some (.int .i64 rb) := (cells_at HQR.out 1).trans rfl
      have HLI := hide' (list_any ra rb L hL2 w6)
      have HRL : Hid (rel.length = k) := by have h := plan_len (ls := ls) (L := L) (H := H) (ti := ti) (pr := pr) (en := en) k; rw [HPK.out] at h; exact h
      go_wp2_with fail
      refine HLI.out.mono ?_
      rintro e w7 ⟨ov, rfl, hov, hb7⟩
      obtain ⟨oa4, oc4, hoe⟩ := own_slice hov
      subst hoe
      have HB7 := hide' (HB6.out.below hb7)
      have HOV := hide' (own_mono hov HB6.out.but.size)
      have HQ7 : Hid (w7.heap[R]? = some (.cells #[.int .i64 ra, .int .i64 rb] 117 (0, 0))) := (hb7.block R (lt_heap HQR.out)).trans HQR.out
      obtain ⟨vals, hvl, hva, hvr⟩ := HB7.out.st
      have HVA := hide' (And.intro hvl (And.intro hva hvr))
      clear hvl hva hvr hov hb7 p0 r0 r1 HLI HB6 HB5 HQR HB1 HNE
      go_wp2_with (at_builtin; refine wpList_append_own _ rfl _ _ 51 rfl W.heap.size 39 i23 (.slice none 0 0) 1 24 Try.underlying51 hi23 h230 h231 h232 rfl (by decide) _ _ _ rfl (own_below HVA.out.2.1 (below_al _ _) (Nat.le_refl _)) ⟨w7.heap.size, 0, none⟩ 1 1 [.slice oa4 (listOf ra rb L).length oc4] rfl rfl (cell_one_new _ _ _) (one_cell rfl) (by have := HRL.out; unfold maxLen; omega) (by have := HRL.out; omega) (Nat.le_trans HB7.out.but.size (below_al _ _).size) ?_; intro v' z8 hown' hgrow _; refine Still.go ?_)
      unfold Still
      have HB8 := hide' (HB7.out.grow (ov := .slice oa4 (listOf ra rb L).length oc4) HVA.out.1 HVA.out.2.1 HVA.out.2.2 HOV.out hown' rfl hgrow)
      have HR8 : Hid (z8.heap[R]? = some (.cells #[.int .i64 ra, .int .i64 rb] 117 (0, 0))) := grown_keep (w := W) HVA.out.2.1 hgrow HQ7.out (by decide)
      have HT8 := hide' HB8.out.hT
      clear hown' hgrow HVA HOV HQ7 HB7
      have HEZ : Hid (∀ Wz, Below z8.heap.size z8 Wz → PEnv Wz ls L H ti pr en al ai ap ae cl ci cp ce M) := fun Wz hb => (HB8.out.env HE.out).below hb
      have hht : k < ti.length := by rw [HP.out.t]; exact hlt
      have gb := good_bounds HP.out.ok HP.out.l HG.out
      have fb := full_bounds (inr := ti.getD k []) HP.out.ok HP.out.l (HP.out.inb hlt) HG.out
      have rbd := fit_bd HP.out hlt HG.out HFT.out
      have HFI : Hid (∀ Wz, Below z8.heap.size z8 Wz → Calls Try.prog 62 #[.agg #[.slice al L cl, .slice ai H ci], .agg #[.int .i64 s0, .int .i64 s1, .int .i64 s2, .int .i64 s3], .int .i64 (k : Int)] Wz fun e w' => e = .returned (.agg #[.int .i64 (fullH L ti k ⟨s0, s1, s2, s3⟩).a, .int .i64 (fullH L ti k ⟨s0, s1, s2, s3⟩).b]) ∧ Below Wz.heap.size Wz w') := fun Wz hb => by
        have h1 := fill_any ti k hht L (HP.out.tr _ (List.getElem_mem hht)) (HP.out.ti _ (List.getElem_mem hht)) (.slice al L cl) ai H ci HP.out.t s0 s1 s2 s3 Wz (HEZ.out Wz hb).inflow hL2 (by simp only at gb; omega)
        rw [show fillV ti[k] s0 s1 s2 s3 L = #[.int .i64 (fullH L ti k ⟨s0, s1, s2, s3⟩).a, .int .i64 (fullH L ti k ⟨s0, s1, s2, s3⟩).b] from by unfold fullH; rw [getD_at hht]; rfl] at h1
        exact h1
      have HAF : Hid (∀ Wz, Below z8.heap.size z8 Wz → Calls Try.prog 69 #[.agg #[.slice al L cl, .slice ai H ci, .slice ap H cp, .slice ae L ce, .map (some M)], .agg #[.int .i64 (k : Int), .int .i64 s0, .int .i64 s1, .int .i64 s2, .int .i64 s3], .agg #[.int .i64 (fullH L ti k ⟨s0, s1, s2, s3⟩).a, .int .i64 (fullH L ti k ⟨s0, s1, s2, s3⟩).b], .agg #[.int .i64 ra, .int .i64 rb]] Wz fun e w' => e = .returned (momS (k + 1) (next2 ls L (fullH L ti k ⟨s0, s1, s2, s3⟩) ⟨ra, rb⟩)) ∧ Below Wz.heap.size Wz w') := fun Wz hb => by
        have h1 := after_any ls HP.out.ok al L cl (.slice ai H ci) (.slice ap H cp) (.slice ae L ce) (.map (some M)) k (by omega) s0 s1 s2 s3 (fullH L ti k ⟨s0, s1, s2, s3⟩).a (fullH L ti k ⟨s0, s1, s2, s3⟩).b ra rb Wz (HEZ.out Wz hb).lakes HP.out.l hL2 (by have : fullH L ti k ⟨s0, s1, s2, s3⟩ = full2 L ⟨s0, s1, s2, s3⟩ (ti.getD k []) := rfl; rw [this]; omega) (by simp only at rbd; omega)
        rw [show Value.agg (afterA ls L k (fullH L ti k ⟨s0, s1, s2, s3⟩).a (fullH L ti k ⟨s0, s1, s2, s3⟩).b ra rb) = momS (k + 1) (next2 ls L (fullH L ti k ⟨s0, s1, s2, s3⟩) ⟨ra, rb⟩) from rfl] at h1
        exact h1
      obtain ⟨nx, hnx⟩ : ∃ n, n = next2 ls L (fullH L ti k ⟨s0, s1, s2, s3⟩) ⟨ra, rb⟩ := ⟨_, rfl⟩
      rw [← hnx] at HAF HPN
      obtain ⟨n0, n1, n2, n3⟩ := nx
      rw [show momS (k + 1) ⟨n0, n1, n2, n3⟩ = .agg #[.int .i64 ((k + 1 : Nat) : Int), .int .i64 n0, .int .i64 n1, .int .i64 n2, .int .i64 n3] from rfl] at HAF
      obtain ⟨fa, hfa⟩ : ∃ n, n = (fullH L ti k ⟨s0, s1, s2, s3⟩).a := ⟨_, rfl⟩
      obtain ⟨fb', hfb⟩ : ∃ n, n = (fullH L ti k ⟨s0, s1, s2, s3⟩).b := ⟨_, rfl⟩
      rw [← hfa, ← hfb] at HFI HAF
      clear hnx hfa hfb gb fb rbd hht HFT
      have c0 : z8.cell? ⟨P, 0, none⟩ = some (.slice al L cl) := (cells_at HB8.out.hP 0).trans rfl
      have c1 : z8.cell? ⟨P, 1, none⟩ = some (.slice ai H ci) := (cells_at HB8.out.hP 1).trans rfl
      have c2 : z8.cell? ⟨P, 2, none⟩ = some (.slice ap H cp) := (cells_at HB8.out.hP 2).trans rfl
      have c3 : z8.cell? ⟨P, 3, none⟩ = some (.slice ae L ce) := (cells_at HB8.out.hP 3).trans rfl
      have c4 : z8.cell? ⟨P, 4, none⟩ = some (.map (some M)) := (cells_at HB8.out.hP 4).trans rfl
      have d0 : z8.cell? ⟨T, 0, none⟩ = some (.int .i64 (k : Int)) := (cells_at HT8.out 0).trans rfl
      have d1 : z8.cell? ⟨T, 1, none⟩ = some (.int .i64 s0) := (cells_at HT8.out 1).trans rfl
      have d2 : z8.cell? ⟨T, 2, none⟩ = some (.int .i64 s1) := (cells_at HT8.out 2).trans rfl
      have d3 : z8.cell? ⟨T, 3, none⟩ = some (.int .i64 s2) := (cells_at HT8.out 3).trans rfl
      have d4 : z8.cell? ⟨T, 4, none⟩ = some (.int .i64 s3) := (cells_at HT8.out 4).trans rfl
      have g0 : z8.cell? ⟨R, 0, none⟩ = some (.int .i64 ra) := (cells_at HR8.out 0).trans rfl
      have g1 : z8.cell? ⟨R, 1, none⟩ = some (.int .i64 rb) := (cells_at HR8.out 1).trans rfl
      have HSZ : Hid (∀ Wz, Below z8.heap.size z8 Wz → Wz.cell? ⟨P, 0, none⟩ = some (.slice al L cl) ∧ Wz.cell? ⟨P, 1, none⟩ = some (.slice ai H ci) ∧ Wz.cell? ⟨P, 2, none⟩ = some (.slice ap H cp) ∧ Wz.cell? ⟨P, 3, none⟩ = some (.slice ae L ce) ∧ Wz.cell? ⟨P, 4, none⟩ = some (.map (some M)) ∧ Wz.cell? ⟨T, 0, none⟩ = some (.int .i64 (k : Int)) ∧ Wz.cell? ⟨T, 1, none⟩ = some (.int .i64 s0) ∧ Wz.cell? ⟨T, 2, none⟩ = some (.int .i64 s1) ∧ Wz.cell? ⟨T, 3, none⟩ = some (.int .i64 s2) ∧ Wz.cell? ⟨T, 4, none⟩ = some (.int .i64 s3) ∧ Wz.cell? ⟨R, 0, none⟩ = some (.int .i64 ra) ∧ Wz.cell? ⟨R, 1, none⟩ = some (.int .i64 rb)) := fun Wz hb => ⟨up_cell hb c0, up_cell hb c1, up_cell hb c2, up_cell hb c3, up_cell hb c4, up_cell hb d0, up_cell hb d1, up_cell hb d2, up_cell hb d3, up_cell hb d4, up_cell hb g0, up_cell hb g1⟩
      clear c0 c1 c2 c3 c4 d0 d1 d2 d3 d4 g0 g1
      go_upto_region 7 with fail
      refine wp_region_tail (fun Wz => Wz.cell? ⟨P, 0, none⟩ = some (.slice al L cl) ∧ Wz.cell? ⟨P, 1, none⟩ = some (.slice ai H ci) ∧ Wz.cell? ⟨P, 2, none⟩ = some (.slice ap H cp) ∧ Wz.cell? ⟨P, 3, none⟩ = some (.slice ae L ce) ∧ Wz.cell? ⟨P, 4, none⟩ = some (.map (some M)) ∧ Wz.cell? ⟨T, 0, none⟩ = some (.int .i64 (k : Int)) ∧ Wz.cell? ⟨T, 1, none⟩ = some (.int .i64 s0) ∧ Wz.cell? ⟨T, 2, none⟩ = some (.int .i64 s1) ∧ Wz.cell? ⟨T, 3, none⟩ = some (.int .i64 s2) ∧ Wz.cell? ⟨T, 4, none⟩ = some (.int .i64 s3) ∧ Wz.cell? ⟨R, 0, none⟩ = some (.int .i64 ra) ∧ Wz.cell? ⟨R, 1, none⟩ = some (.int .i64 rb)) 11 (by kernel_rfl) ?_
      refine wpAnyT_letter (fun Wz => Below z8.heap.size z8 Wz) (Below.refl _ z8).drew ?_
      rintro z hbz
      refine wpAnyD_takeAt 0 (some 36) (v := ?_) rfl (by kernel_rfl) (by kernel_rfl) (by kernel_rfl) (by kernel_rfl) (by kernel_rfl) (fun _ _ _ h => h) (by exact HSZ.out z hbz) (fun o hop => ?_) ?_
      rotate_left
      · injection hop with hop
        subst hop
        refine ⟨rfl, fun Wz hWz => ?_⟩
        obtain ⟨e0, e1, e2, e3, e4, e5, e6, e7, e8, e9, e10, e11⟩ := hWz
        go_simp
        first
        | rfl
        | (constructor <;> rfl)
        | rw [if_neg (by omega)]
      try simp only [Act.put, List.setIfInBounds_toArray, List.set_cons_zero, List.set_cons_succ]
      refine wpAnyD_takeAt 1 (some 37) (v := ?_) rfl (by kernel_rfl) (by kernel_rfl) (by kernel_rfl) (by kernel_rfl) (by kernel_rfl) (fun _ _ _ h => h) (by exact HSZ.out z hbz) (fun o hop => ?_) ?_
      rotate_left
      · injection hop with hop
        subst hop
        refine ⟨rfl, fun Wz hWz => ?_⟩
        obtain ⟨e0, e1, e2, e3, e4, e5, e6, e7, e8, e9, e10, e11⟩ := hWz
        go_simp
        first
        | rfl
        | (constructor <;> rfl)
        | rw [if_neg (by omega)]
      try simp only [Act.put, List.setIfInBounds_toArray, List.set_cons_zero, List.set_cons_succ]
      refine wpAnyD_takeAt 2 (some 38) (v := ?_) rfl (by kernel_rfl) (by kernel_rfl) (by kernel_rfl) (by kernel_rfl) (by kernel_rfl) (fun _ _ _ h => h) (by exact HSZ.out z hbz) (fun o hop => ?_) ?_
      rotate_left
      · injection hop with hop
        subst hop
        refine ⟨rfl, fun Wz hWz => ?_⟩
        obtain ⟨e0, e1, e2, e3, e4, e5, e6, e7, e8, e9, e10, e11⟩ := hWz
        go_simp
        first
        | rfl
        | (constructor <;> rfl)
        | rw [if_neg (by omega)]
      try simp only [Act.put, List.setIfInBounds_toArray, List.set_cons_zero, List.set_cons_succ]
      refine wpAnyD_takeAt 3 (some 39) (v := ?_) rfl (by kernel_rfl) (by kernel_rfl) (by kernel_rfl) (by kernel_rfl) (by kernel_rfl) (fun _ _ _ h => h) (by exact HSZ.out z hbz) (fun o hop => ?_) ?_
      rotate_left
      · injection hop with hop
        subst hop
        refine ⟨rfl, fun Wz hWz => ?_⟩
        obtain ⟨e0, e1, e2, e3, e4, e5, e6, e7, e8, e9, e10, e11⟩ := hWz
        go_simp
        first
        | rfl
        | (constructor <;> rfl)
        | rw [if_neg (by omega)]
      try simp only [Act.put, List.setIfInBounds_toArray, List.set_cons_zero, List.set_cons_succ]
      refine wpAnyD_takeAt 4 (some 40) (v := ?_) rfl (by kernel_rfl) (by kernel_rfl) (by kernel_rfl) (by kernel_rfl) (by kernel_rfl) (fun _ _ _ h => h) (by exact HSZ.out z hbz) (fun o hop => ?_) ?_
      rotate_left
      · injection hop with hop
        subst hop
        refine ⟨rfl, fun Wz hWz => ?_⟩
        obtain ⟨e0, e1, e2, e3, e4, e5, e6, e7, e8, e9, e10, e11⟩ := hWz
        go_simp
        first
        | rfl
        | (constructor <;> rfl)
        | rw [if_neg (by omega)]
      try simp only [Act.put, List.setIfInBounds_toArray, List.set_cons_zero, List.set_cons_succ]
      refine wpAnyD_takeAt 5 (some 41) (v := ?_) rfl (by kernel_rfl) (by kernel_rfl) (by kernel_rfl) (by kernel_rfl) (by kernel_rfl) (fun _ _ _ h => h) (by exact HSZ.out z hbz) (fun o hop => ?_) ?_
      rotate_left
      · injection hop with hop
        subst hop
        refine ⟨rfl, fun Wz hWz => ?_⟩
        obtain ⟨e0, e1, e2, e3, e4, e5, e6, e7, e8, e9, e10, e11⟩ := hWz
        go_simp
        first
        | rfl
        | (constructor <;> rfl)
        | rw [if_neg (by omega)]
      try simp only [Act.put, List.setIfInBounds_toArray, List.set_cons_zero, List.set_cons_succ]
      refine wpAnyD_takeAt 6 (some 42) (v := ?_) rfl (by kernel_rfl) (by kernel_rfl) (by kernel_rfl) (by kernel_rfl) (by kernel_rfl) (fun _ _ _ h => h) (by exact HSZ.out z hbz) (fun o hop => ?_) ?_
      rotate_left
      · injection hop with hop
        subst hop
        refine ⟨rfl, fun Wz hWz => ?_⟩
        obtain ⟨e0, e1, e2, e3, e4, e5, e6, e7, e8, e9, e10, e11⟩ := hWz
        go_simp
        first
        | rfl
        | (constructor <;> rfl)
        | rw [if_neg (by omega)]
      try simp only [Act.put, List.setIfInBounds_toArray, List.set_cons_zero, List.set_cons_succ]
      refine wpAnyD_takeAt 7 (some 43) (v := ?_) rfl (by kernel_rfl) (by kernel_rfl) (by kernel_rfl) (by kernel_rfl) (by kernel_rfl) (fun _ _ _ h => h) (by exact HSZ.out z hbz) (fun o hop => ?_) ?_
      rotate_left
      · injection hop with hop
        subst hop
        refine ⟨rfl, fun Wz hWz => ?_⟩
        obtain ⟨e0, e1, e2, e3, e4, e5, e6, e7, e8, e9, e10, e11⟩ := hWz
        go_simp
        first
        | rfl
        | (constructor <;> rfl)
        | rw [if_neg (by omega)]
      try simp only [Act.put, List.setIfInBounds_toArray, List.set_cons_zero, List.set_cons_succ]
      refine wpAnyD_takeAt 9 (some 45) (v := ?_) rfl (by kernel_rfl) (by kernel_rfl) (by kernel_rfl) (by kernel_rfl) (by kernel_rfl) (fun _ _ _ h => h) (by exact HSZ.out z hbz) (fun o hop => ?_) ?_
      rotate_left
      · injection hop with hop
        subst hop
        refine ⟨rfl, fun Wz hWz => ?_⟩
        obtain ⟨e0, e1, e2, e3, e4, e5, e6, e7, e8, e9, e10, e11⟩ := hWz
        go_simp
        first
        | rfl
        | (constructor <;> rfl)
        | rw [if_neg (by omega)]
      try simp only [Act.put, List.setIfInBounds_toArray, List.set_cons_zero, List.set_cons_succ]
      refine wpAnyT_one (i := 8) (by kernel_rfl) rfl rfl (fun K' hK => ?_)
      go_simp
      go_at_call 62
      refine (HFI.out z hbz).mono ?_
      rintro e z1 ⟨rfl, hb1⟩
      replace hbz := hbz.trans (hb1.mono hbz.size)
      clear hb1
      refine hK.out _ _ (fun _ => by exact HSZ.out z1 hbz) ?_
      clear hK K'
      refine wpAnyT_one (i := 10) (by kernel_rfl) rfl rfl (fun K' hK => ?_)
      go_simp
      go_at_call 69
      refine (HAF.out z1 hbz).mono ?_
      rintro e z2 ⟨rfl, hb2⟩
      replace hbz := hbz.trans (hb2.mono hbz.size)
      clear hb2
      refine hK.out _ _ (fun _ => by exact HSZ.out z2 hbz) ?_
      clear hK K'
      have hzT := (hbz.block T (lt_heap HT8.out)).trans HT8.out
      have y0 : z2.cell? ⟨T, 0, none⟩ = some (.int .i64 (k : Int)) := (cells_at hzT 0).trans rfl
      have y1 : z2.cell? ⟨T, 1, none⟩ = some (.int .i64 s0) := (cells_at hzT 1).trans rfl
      have y2 : z2.cell? ⟨T, 2, none⟩ = some (.int .i64 s1) := (cells_at hzT 2).trans rfl
      have y3 : z2.cell? ⟨T, 3, none⟩ = some (.int .i64 s2) := (cells_at hzT 3).trans rfl
      have y4 : z2.cell? ⟨T, 4, none⟩ = some (.int .i64 s3) := (cells_at hzT 4).trans rfl
      have x0 := frozen_no hzT 0
      have x1 := frozen_no hzT 1
      have x2 := frozen_no hzT 2
      have x3 := frozen_no hzT 3
      have x4 := frozen_no hzT 4
      refine wpAnyT_one (i := 11) (by kernel_rfl) rfl rfl (fun K' hK => ?_)
      go_simp
      refine hK.out _ _ (fun h => absurd rfl h) ?_
      clear hK K'
      refine wpAnyT_done (by kernel_rfl) ?_ _
      have HB9 := hide' ((HB8.out.below hbz).set5 HPT.out rfl (.int .i64 ((k + 1 : Nat) : Int)) (.int .i64 n0) (.int .i64 n1) (.int .i64 n2) (.int .i64 n3))
      clear hbz hzT y0 y1 y2 y3 y4 x0 x1 x2 x3 x4
      go_wp2_with fail
      go_roundg (H - (k + 1))
      case measure => omega
      case rel => exact ⟨k + 1, n0, n1, n2, n3, rel ++ [listOf ra rb L], Nat.le_refl _, by omega, HPN, HB9⟩
    · obtain rfl : k = H := by omega
      have HFN : Hid (∀ e v, e = .returned (.tuple #[v, .int .i64 ox]) → StepsAt wr W.heap.size v rel → PO e wr) := fun e v h1 h2 => HBO.out e wr v h1 (by rw [HPK.out]; exact h2) HB.out.but
      go_wp2_with fail
      exact HFN.out _ _ rfl HB.out.st
end Go.Proofs.Ytnhddmcdmcpkeaj
