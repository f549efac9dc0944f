/- What a search hour by hour finds is the plan. -/
import Derived.Test.YtnhddmcdmcpkeajVj
namespace Go.Proofs.Ytnhddmcdmcpkeaj
open Go.RowKit Go.Shelf

theorem list_rel {l : List Int} {L : Nat} (h : l.length = L) (hL : L ≤ 2) : listOf (rel2 L l).a (rel2 L l).b L = l := by
  unfold listOf rel2
  match l, h with
  | [], h => subst h; rfl
  | [x], h => subst h; rfl
  | [x, y], h => subst h; rfl
  | _ :: _ :: _ :: _, h => simp at h; omega
theorem lx_list {x y : Pair2} {L : Nat} (hL : L ≤ 2) (h : plt x y) (h0 : ¬ 0 < L → x.a = y.a) (h1 : ¬ 1 < L → x.b = y.b) : lx (listOf x.a x.b L) (listOf y.a y.b L) := by
  have hc : L = 0 ∨ L = 1 ∨ L = 2 := by omega
  rcases hc with rfl | rfl | rfl
  · have e0 := h0 (by omega)
    have e1 := h1 (by omega)
    rcases h with h | h <;> omega
  · have e1 := h1 (by omega)
    show x.a < y.a ∨ x.a = y.a ∧ lx [] []
    rcases h with h | h
    · exact Or.inl h
    · omega
  · show x.a < y.a ∨ x.a = y.a ∧ (x.b < y.b ∨ x.b = y.b ∧ lx [] [])
    rcases h with h | h
    · exact Or.inl h
    · exact Or.inr ⟨h.1, Or.inl h.2⟩
/-- With what is kept at the end. -/
def Wet.fin (en : List Int) (L : Nat) (w : Wet) : Wet := ⟨w.s, w.e + keptK en w.s.l0 w.s.l1 L, w.t⟩
theorem Wet.fin_as {en : List Int} {L : Nat} {x y : Wet} (hs : x.s = y.s) (h : x.as y) : (x.fin en L).as (y.fin en L) := fun h0 => h (by
  rcases h0 with h0 | ⟨h0, h1⟩
  · refine Or.inl ?_
    unfold Wet.fin at h0
    rw [hs] at h0
    simp only at h0
    omega
  · refine Or.inr ⟨?_, h1⟩
    unfold Wet.fin at h0
    rw [hs] at h0
    simp only at h0
    omega)
section
variable {ls : List LakeM} {L H : Nat} {ti : List (List Int)} {pr en : List Int} {all : List (List Int)}
/-- All releases that turbines let through. -/
structure AllR (ls : List LakeM) (L : Nat) (all : List (List Int)) : Prop where
  len : ∀ l ∈ all, l.length = L
  full : ∀ a b : Int, 0 ≤ a ∧ (0 < L → a ≤ (lkD ls 0).turb) → 0 ≤ b ∧ (1 < L → b ≤ (lkD ls 1).turb) → listOf a b L ∈ all
theorem free_turb {f : Pair2} : (0 < L → (free2 ls L f).a ≤ (lkD ls 0).turb) ∧ (1 < L → (free2 ls L f).b ≤ (lkD ls 1).turb) := by
  have one : ∀ (k : LakeM) (x : Int), freeOf k x ≤ k.turb := fun k x => by unfold freeOf; split <;> omega
  refine ⟨fun h => ?_, fun h => ?_⟩
  · have e : (free2 ls L f).a = freeOf (lkD ls 0) f.a := if_pos h
    rw [e]; exact one _ _
  · have e : (free2 ls L f).b = freeOf (lkD ls 1) f.b := if_pos h
    rw [e]; exact one _ _
theorem planR_fit (hp : PlanOk ls L H ti pr en) {k : Nat} (hk : k < H) : Fit ls L (fullH L ti k (planK ls L H ti pr en k).1) (planR ls L H ti pr en k) := by
  unfold planR
  rw [show H - k = (H - k - 1) + 1 by omega]
  exact look_fit hp (by omega) (plan_good hp k (by omega))
theorem planR_row {k : Nat} (hk : k < H) : (planK ls L H ti pr en H).2.getD k [] = listOf (planR ls L H ti pr en k).a (planR ls L H ti pr en k).b L := plan_at hk
theorem dp_plan (hp : PlanOk ls L H ti pr en) (ha : AllR ls L all) {w : Wet} (hw : w ∈ nowL ls L ti pr all H) (hb : ∀ y ∈ nowL ls L ti pr all H, (w.fin en L).as (y.fin en L)) : w.t = (planK ls L H ti pr en H).2 ∧ (w.fin en L).e = (lookD ls L ti pr en H 0 (startS ls L)).1 := by
  obtain ⟨w1, w2, q, w3, w4, w5⟩ := now_runs H w hw
  obtain ⟨q', p1, p2⟩ := plan_run hp H (Nat.le_refl _)
  have prow : ∀ l ∈ (planK ls L H ti pr en H).2, l ∈ all := fun l hl => by
    obtain ⟨k, hk, rfl⟩ := List.mem_iff_getElem.1 hl
    have hk' : k < H := by rw [plan_len] at hk; exact hk
    rw [← getD_at hk, planR_row hk']
    have hf := planR_fit hp hk'
    have ht := free_turb (ls := ls) (L := L) (f := fullH L ti k (planK ls L H ti pr en k).1)
    have f0 := hf.a0; have f1 := hf.a1; have f2 := hf.b0; have f3 := hf.b1
    exact ha.full _ _ ⟨f0, fun h => Int.le_trans f1 (ht.1 h)⟩ ⟨f2, fun h => Int.le_trans f3 (ht.2 h)⟩
  obtain ⟨y, y1, y2, y3⟩ := now_all (pr := pr) ha.len H (planK ls L H ti pr en H).2 q' (plan_len H) prow p1
  have h1 := Wet.as_trans (hb y y1) (Wet.fin_as (en := en) (L := L) y2 y3)
  have hpw := plan_worth hp H 0 (by omega)
  have hle := run_le hp w3 H 0 _ (by omega) rfl
  have e0 : earnT ls L pr w.t 0 = 0 := rfl
  have e1 : earnT ls L pr (planK ls L H ti pr en H).2 0 = 0 := rfl
  have e2 : (planK ls L H ti pr en 0).1 = startS ls L := rfl
  rw [e0] at hle
  rw [e1, e2] at hpw
  have ew : (w.fin en L).e = earnT ls L pr w.t H + keptK en q.s.l0 q.s.l1 L := by
    show w.e + keptK en w.s.l0 w.s.l1 L = _
    rw [w5, w4]
  have ep : ((⟨q'.s, earnT ls L pr (planK ls L H ti pr en H).2 H, (planK ls L H ti pr en H).2⟩ : Wet).fin en L).e = earnT ls L pr (planK ls L H ti pr en H).2 H + keptK en (planK ls L H ti pr en H).1.l0 (planK ls L H ti pr en H).1.l1 L := by
    show _ + keptK en q'.s.l0 q'.s.l1 L = _
    rw [p2]
  have h2 : ¬ (w.fin en L).e < ((⟨q'.s, earnT ls L pr (planK ls L H ti pr en H).2 H, (planK ls L H ti pr en H).2⟩ : Wet).fin en L).e := fun h => h1 (Or.inl h)
  have hle' : earnT ls L pr w.t H + keptK en q.s.l0 q.s.l1 L ≤ 0 + (lookD ls L ti pr en H 0 (startS ls L)).1 := hle
  have heq : earnT ls L pr w.t H + keptK en q.s.l0 q.s.l1 L = earnT ls L pr (planK ls L H ti pr en H).2 H + keptK en (planK ls L H ti pr en H).1.l0 (planK ls L H ti pr en H).1.l1 L := by omega
  have h3 : ¬ lx (planK ls L H ti pr en H).2.flatten w.t.flatten := fun h => h1 (Or.inr ⟨by rw [ew, ep]; exact heq, h⟩)
  have wrow : ∀ h, h < H → (w.t.getD h []).length = L := fun h hh => by
    rw [getD_at (by omega)]
    exact ha.len _ (w2 _ (List.getElem_mem _))
  refine ⟨?_, by rw [ew]; omega⟩
  rcases plan_first hp w3 heq H 0 _ (by omega) rfl rfl rfl with h4 | ⟨h, _, h5, h6, h7⟩
  · refine List.ext_getElem (by rw [w1, plan_len]) fun k k1 k2 => ?_
    have hk : k < H := by omega
    rw [← getD_at k1, ← getD_at k2, planR_row hk, h4 k (Nat.zero_le _) hk, list_rel (wrow k hk) hp.L2]
  · refine absurd (lx_rows (h := h) (by rw [plan_len]; exact h5) (by omega) (fun k hk => ?_) ?_ ?_) h3
    · rw [planR_row (by omega), h6 k (Nat.zero_le _) hk, list_rel (wrow k (by omega)) hp.L2]
    · rw [planR_row h5, wrow h h5, list_len _ _ hp.L2]
    · have hf := planR_fit hp h5
      rw [planR_row h5, ← list_rel (wrow h h5) hp.L2]
      have f0 := hf.a0; have f1 := hf.a1; have f2 := hf.b0; have f3 := hf.b1
      refine lx_list hp.L2 h7 (fun h0 => ?_) (fun h0 => ?_)
      · have z1 : (free2 ls L (fullH L ti h (planK ls L H ti pr en h).1)).a = 0 := if_neg h0
        have z2 : (rel2 L (w.t.getD h [])).a = 0 := if_neg h0
        omega
      · have z1 : (free2 ls L (fullH L ti h (planK ls L H ti pr en h).1)).b = 0 := if_neg h0
        have z2 : (rel2 L (w.t.getD h [])).b = 0 := if_neg h0
        omega
end
end Go.Proofs.Ytnhddmcdmcpkeaj
