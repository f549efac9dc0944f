/- No releases are worth more. -/
import Derived.Test.YtnhddmcdmcpkeajVc
namespace Go.Proofs.Ytnhddmcdmcpkeaj
open Go.RowKit Go.Shelf

theorem bestF_ge {val : Pair2 → Int} : ∀ (cs : List Pair2), ∀ r ∈ cs, val r ≤ (bestF val cs).1 := by
  have gen : ∀ (cs : List Pair2) (b : Int × Pair2), b.1 ≤ (cs.foldl (fun b r => if b.1 < val r then (val r, r) else b) b).1 ∧ ∀ r ∈ cs, val r ≤ (cs.foldl (fun b r => if b.1 < val r then (val r, r) else b) b).1 := by
    intro cs
    induction cs with
    | nil => intro b; exact ⟨Int.le_refl _, fun r hr => by cases hr⟩
    | cons x cs ih =>
      intro b
      rw [List.foldl_cons]
      obtain ⟨h1, h2⟩ := ih (if b.1 < val x then (val x, x) else b)
      have h3 : b.1 ≤ (if b.1 < val x then (val x, x) else b).1 ∧ val x ≤ (if b.1 < val x then (val x, x) else b).1 := by
        split
        · next h => exact ⟨Int.le_of_lt h, Int.le_refl _⟩
        · next h => exact ⟨Int.le_refl _, by omega⟩
      refine ⟨Int.le_trans h3.1 h1, fun r hr => ?_⟩
      rcases List.mem_cons.1 hr with rfl | hr
      · exact Int.le_trans h3.2 h1
      · exact h2 r hr
  intro cs
  exact (gen cs (-1, ⟨0, 0⟩)).2
theorem bestF_at {val : Pair2 → Int} {cs : List Pair2} (h : -1 < (bestF val cs).1) : val (bestF val cs).2 = (bestF val cs).1 := by
  have gen : ∀ (cs : List Pair2) (b : Int × Pair2), (b.1 = -1 ∨ val b.2 = b.1) → ((cs.foldl (fun b r => if b.1 < val r then (val r, r) else b) b).1 = -1 ∨ val (cs.foldl (fun b r => if b.1 < val r then (val r, r) else b) b).2 = (cs.foldl (fun b r => if b.1 < val r then (val r, r) else b) b).1) := by
    intro cs
    induction cs with
    | nil => intro b hb; exact hb
    | cons x cs ih =>
      intro b hb
      rw [List.foldl_cons]
      refine ih _ ?_
      split
      · exact Or.inr rfl
      · exact hb
  rcases gen cs (-1, ⟨0, 0⟩) (Or.inl rfl) with h1 | h1
  · have h2 : (bestF val cs).1 = -1 := h1
    omega
  · exact h1
theorem mem_cho {m0 m1 : Nat} {r : Pair2} (ha : 0 ≤ r.a ∧ r.a ≤ m0) (hb : 0 ≤ r.b ∧ r.b ≤ m1) : r ∈ choL m0 m1 := by
  obtain ⟨ra, rb⟩ := r
  obtain ⟨a, rfl⟩ : ∃ a : Nat, ra = a := ⟨ra.toNat, by simp only at ha; omega⟩
  obtain ⟨b, rfl⟩ : ∃ b : Nat, rb = b := ⟨rb.toNat, by simp only at hb; omega⟩
  simp only at ha hb
  unfold choL
  refine List.mem_map.2 ⟨b + (m1 + 1) * a, List.mem_range.2 ?_, ?_⟩
  · have e1 : (m1 + 1) * a ≤ (m1 + 1) * m0 := Nat.mul_le_mul_left _ (by omega)
    have e2 : (m0 + 1) * (m1 + 1) = (m1 + 1) * m0 + (m1 + 1) := by rw [Nat.add_mul, Nat.mul_comm, Nat.one_mul]
    omega
  · unfold choA
    rw [Nat.add_mul_div_left _ _ (by omega), Nat.add_mul_mod_self_left, Nat.div_eq_of_lt (by omega), Nat.mod_eq_of_lt (by omega), Nat.zero_add]
/-- What is earned in hour k by a table of releases, and in the hours up to k. -/
def earnH (ls : List LakeM) (L : Nat) (pr : List Int) (tr : List (List Int)) (k : Nat) : Int := earnK ls (pr.getD k 0) ((tr.getD k []).getD 0 0) ((tr.getD k []).getD 1 0) L
def earnT (ls : List LakeM) (L : Nat) (pr : List Int) (tr : List (List Int)) : Nat → Int
  | 0 => 0
  | k + 1 => earnT ls L pr tr k + earnH ls L pr tr k
section
variable {ls : List LakeM} {L H : Nat} {ti : List (List Int)} {pr en : List Int} {tr : List (List Int)}
theorem fit_mem (h : PlanOk ls L H ti pr en) {k : Nat} (hk : k < H) {s : Stnd} (g : Good ls L s) {r : Pair2} (hr : Fit ls L (fullH L ti k s) r) : r ∈ choH ls L ti k s := by
  have h1 := free_nn h hk g
  have h2 := hr.a0; have h3 := hr.a1; have h4 := hr.b0; have h5 := hr.b1
  exact mem_cho ⟨h2, by omega⟩ ⟨h4, by omega⟩
theorem ask_fit (h : PlanOk ls L H ti pr en) {k : Nat} (hk : k < H) {s : Stnd} (g : Good ls L s) {rr : List Int} (hr : hourOk ls L s (ti.getD k []) rr = true) : Fit ls L (fullH L ti k s) (rel2 L rr) := by
  have h1 := free_nn h hk g
  have h2 := askB_iff.1 hr
  have e0 : 0 < L → (rel2 L rr).a = rr.getD 0 0 := fun h0 => if_pos h0
  have e0' : ¬ 0 < L → (rel2 L rr).a = 0 := fun h0 => if_neg h0
  have e1 : 1 < L → (rel2 L rr).b = rr.getD 1 0 := fun h0 => if_pos h0
  have e1' : ¬ 1 < L → (rel2 L rr).b = 0 := fun h0 => if_neg h0
  by_cases h0 : 0 < L
  · have q0 := h2.1 h0
    rw [← e0 h0] at q0
    by_cases h3 : 1 < L
    · have q1 := h2.2 h3
      rw [← e1 h3] at q1
      exact ⟨q0.1, q0.2, q1.1, q1.2⟩
    · exact ⟨q0.1, q0.2, by rw [e1' h3]; exact Int.le_refl _, by rw [e1' h3]; exact h1.2.1⟩
  · exact ⟨by rw [e0' h0]; exact Int.le_refl _, by rw [e0' h0]; exact h1.1.1, by rw [e1' (by omega)]; exact Int.le_refl _, by rw [e1' (by omega)]; exact h1.2.1⟩
theorem earn_rel (p : Int) (rr : List Int) : earnK ls p (rel2 L rr).a (rel2 L rr).b L = earnK ls p (rr.getD 0 0) (rr.getD 1 0) L := by
  unfold earnK
  by_cases h0 : 0 < L
  · have e0 : (rel2 L rr).a = rr.getD 0 0 := if_pos h0
    by_cases h1 : 1 < L
    · have e1 : (rel2 L rr).b = rr.getD 1 0 := if_pos h1
      rw [e0, e1]
    · rw [e0, if_neg h1, if_neg h1]
  · rw [if_neg h0, if_neg h0, if_neg (by omega), if_neg (by omega)]
theorem look_nn (h : PlanOk ls L H ti pr en) : ∀ (d k : Nat) (s : Stnd), k + d = H → Good ls L s → 0 ≤ (lookD ls L ti pr en d k s).1
  | 0, k, s, _, g => (kept_bd h g).1
  | d + 1, k, s, hk, g => by
    have hz := fit_zero h (k := k) (by omega) g
    have hb := fit_bd h (by omega) g hz
    have h1 := look_nn h d (k + 1) _ (by omega) (fit_good h (by omega) g hz)
    have h2 := earn_bd h (k := k) (by omega) hb.1 hb.2
    exact Int.le_trans (by omega) (bestF_ge (val := fun r => earnK ls (pr.getD k 0) r.a r.b L + (lookD ls L ti pr en d (k + 1) (next2 ls L (fullH L ti k s) r)).1) (choH ls L ti k s) _ (fit_mem h (by omega) g hz))
theorem run_before : ∀ {k j : Nat} {r : RunR}, runK ls L ti tr (k + j) = some r → ∃ q, runK ls L ti tr k = some q := by
  intro k j r h
  cases e : runK ls L ti tr k with
  | none => rw [run_none e j] at h; cases h
  | some q => exact ⟨q, rfl⟩
theorem run_succ {k : Nat} {q q' : RunR} (h : runK ls L ti tr k = some q) (h' : runK ls L ti tr (k + 1) = some q') : hourOk ls L q.s (ti.getD k []) (tr.getD k []) = true ∧ q'.s = hourS ls L q.s (ti.getD k []) (tr.getD k []) := by
  unfold runK at h'
  rw [h] at h'
  simp only at h'
  split at h'
  · next hq => cases h'; exact ⟨hq, rfl⟩
  · cases h'
/-- Whatever is released, no more comes of it than what is best. -/
theorem run_le (hp : PlanOk ls L H ti pr en) {r : RunR} (hr : runK ls L ti tr H = some r) : ∀ (d k : Nat) (q : RunR), k + d = H → runK ls L ti tr k = some q → earnT ls L pr tr H + keptK en r.s.l0 r.s.l1 L ≤ earnT ls L pr tr k + (lookD ls L ti pr en d k q.s).1
  | 0, k, q, hk, hq => by
    obtain rfl : k = H := by omega
    rw [hr] at hq
    cases hq
    exact Int.le_refl _
  | d + 1, k, q, hk, hq => by
    have hr2 : runK ls L ti tr ((k + 1) + d) = some r := by rw [show (k + 1) + d = H by omega]; exact hr
    obtain ⟨q', hq'⟩ := run_before hr2
    have g := good_run hp.ok hp.l hp.L2 (H := H) (fun h hh => hp.inb hh) (by omega) hq
    obtain ⟨h1, h2⟩ := run_succ hq hq'
    have hf := ask_fit hp (by omega) g h1
    have ih := run_le hp hr d (k + 1) q' (by omega) hq'
    have hb := bestF_ge (val := fun r => earnK ls (pr.getD k 0) r.a r.b L + (lookD ls L ti pr en d (k + 1) (next2 ls L (fullH L ti k q.s) r)).1) (choH ls L ti k q.s) _ (fit_mem hp (by omega) g hf)
    rw [earn_rel] at hb
    have e : q'.s = next2 ls L (fullH L ti k q.s) (rel2 L (tr.getD k [])) := h2
    rw [← e] at hb
    have e2 : earnT ls L pr tr (k + 1) = earnT ls L pr tr k + earnH ls L pr tr k := rfl
    rw [e2] at ih
    unfold earnH at ih
    have e3 : (lookD ls L ti pr en (d + 1) k q.s) = bestF (fun r => earnK ls (pr.getD k 0) r.a r.b L + (lookD ls L ti pr en d (k + 1) (next2 ls L (fullH L ti k q.s) r)).1) (choH ls L ti k q.s) := rfl
    rw [e3]
    omega
theorem plan_pre (k : Nat) : ∀ j, (planK ls L H ti pr en (k + 1 + j)).2.getD k [] = listOf (lookD ls L ti pr en (H - k) k (planK ls L H ti pr en k).1).2.a (lookD ls L ti pr en (H - k) k (planK ls L H ti pr en k).1).2.b L
  | 0 => by
    show ((planK ls L H ti pr en k).2 ++ [_]).getD k [] = _
    rw [List.getD_eq_getElem?_getD, List.getElem?_append_right (by rw [plan_len]; exact Nat.le_refl _), plan_len, Nat.sub_self]
    rfl
  | j + 1 => by
    rw [← plan_pre k j]
    show ((planK ls L H ti pr en (k + 1 + j)).2 ++ [_]).getD k [] = _
    rw [List.getD_eq_getElem?_getD, List.getElem?_append_left (by rw [plan_len]; omega), ← List.getD_eq_getElem?_getD]
theorem plan_at {k : Nat} (hk : k < H) : (planK ls L H ti pr en H).2.getD k [] = listOf (lookD ls L ti pr en (H - k) k (planK ls L H ti pr en k).1).2.a (lookD ls L ti pr en (H - k) k (planK ls L H ti pr en k).1).2.b L := by
  have h := plan_pre (ls := ls) (L := L) (H := H) (ti := ti) (pr := pr) (en := en) k (H - (k + 1))
  rw [show k + 1 + (H - (k + 1)) = H by omega] at h
  exact h
/-- The best releases run. -/
theorem plan_run (hp : PlanOk ls L H ti pr en) : ∀ k, k ≤ H → ∃ q, runK ls L ti (planK ls L H ti pr en H).2 k = some q ∧ q.s = (planK ls L H ti pr en k).1
  | 0, _ => ⟨_, rfl, rfl⟩
  | k + 1, hk => by
    obtain ⟨q, h1, h2⟩ := plan_run hp k (by omega)
    have g := plan_good hp k (by omega)
    have e : H - k = (H - k - 1) + 1 := by omega
    have hf : Fit ls L (fullH L ti k (planK ls L H ti pr en k).1) (lookD ls L ti pr en (H - k) k (planK ls L H ti pr en k).1).2 := by rw [e]; exact look_fit hp (by omega) g
    obtain ⟨h3, h4⟩ := fit_hour hf hp.L2
    rw [← plan_at (by omega), ← h2] at h3 h4
    exact ⟨_, run_next h1 h3, by show hourS _ _ _ _ _ = _; rw [h4, h2]; rfl⟩
/-- The best releases are worth what is told. -/
theorem plan_worth (hp : PlanOk ls L H ti pr en) : ∀ (d k : Nat), k + d = H → earnT ls L pr (planK ls L H ti pr en H).2 H + keptK en (planK ls L H ti pr en H).1.l0 (planK ls L H ti pr en H).1.l1 L = earnT ls L pr (planK ls L H ti pr en H).2 k + (lookD ls L ti pr en d k (planK ls L H ti pr en k).1).1
  | 0, k, hk => by
    obtain rfl : k = H := by omega
    rfl
  | d + 1, k, hk => by
    have g := plan_good hp k (by omega)
    have ih := plan_worth hp d (k + 1) (by omega)
    have hn := look_nn hp (d + 1) k _ (by omega) g
    have e3 : (lookD ls L ti pr en (d + 1) k (planK ls L H ti pr en k).1) = bestF (fun r => earnK ls (pr.getD k 0) r.a r.b L + (lookD ls L ti pr en d (k + 1) (next2 ls L (fullH L ti k (planK ls L H ti pr en k).1) r)).1) (choH ls L ti k (planK ls L H ti pr en k).1) := rfl
    rw [e3] at hn
    have hb := bestF_at (show -1 < (bestF (fun r => earnK ls (pr.getD k 0) r.a r.b L + (lookD ls L ti pr en d (k + 1) (next2 ls L (fullH L ti k (planK ls L H ti pr en k).1) r)).1) (choH ls L ti k (planK ls L H ti pr en k).1)).1 by omega)
    rw [← e3] at hb
    have hf := look_fit hp hk g
    have h3 := fit_rel hf hp.L2
    have e2 : earnT ls L pr (planK ls L H ti pr en H).2 (k + 1) = earnT ls L pr (planK ls L H ti pr en H).2 k + earnH ls L pr (planK ls L H ti pr en H).2 k := rfl
    have e4 : earnH ls L pr (planK ls L H ti pr en H).2 k = earnK ls (pr.getD k 0) (lookD ls L ti pr en (d + 1) k (planK ls L H ti pr en k).1).2.a (lookD ls L ti pr en (d + 1) k (planK ls L H ti pr en k).1).2.b L := by
      unfold earnH
      rw [plan_at (by omega), show H - k = d + 1 by omega, ← earn_rel, h3.1]
    have e5 : (planK ls L H ti pr en (k + 1)).1 = next2 ls L (fullH L ti k (planK ls L H ti pr en k).1) (lookD ls L ti pr en (d + 1) k (planK ls L H ti pr en k).1).2 := by
      show next2 ls L (fullH L ti k (planK ls L H ti pr en k).1) (lookD ls L ti pr en (H - k) k (planK ls L H ti pr en k).1).2 = _
      rw [show H - k = d + 1 by omega]
    rw [e5] at ih
    rw [e2, e4] at ih
    omega
end
end Go.Proofs.Ytnhddmcdmcpkeaj
