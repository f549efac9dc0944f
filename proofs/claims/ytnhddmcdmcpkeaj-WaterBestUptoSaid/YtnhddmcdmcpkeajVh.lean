/- Of several that are best the first is told. -/
import Derived.Test.YtnhddmcdmcpkeajVd
namespace Go.Proofs.Ytnhddmcdmcpkeaj
open Go.RowKit Go.Shelf

/-- A release is ahead of another. -/
def plt (x y : Pair2) : Prop := x.a < y.a ∨ x.a = y.a ∧ x.b < y.b
theorem bestF_in {val : Pair2 → Int} {cs : List Pair2} (h : -1 < (bestF val cs).1) : (bestF val cs).2 ∈ cs := by
  have gen : ∀ (cs : List Pair2) (b : Int × Pair2), (cs.foldl (fun b r => if b.1 < val r then (val r, r) else b) b).2 ∈ cs ∨ cs.foldl (fun b r => if b.1 < val r then (val r, r) else b) b = b := by
    intro cs
    induction cs with
    | nil => intro b; exact Or.inr rfl
    | cons r cs ih =>
      intro b
      rw [List.foldl_cons]
      rcases ih (if b.1 < val r then (val r, r) else b) with h | h
      · exact Or.inl (List.mem_cons_of_mem _ h)
      · rw [h]
        split
        · exact Or.inl (List.mem_cons_self ..)
        · exact Or.inr rfl
  rcases gen cs (-1, ⟨0, 0⟩) with h1 | h1
  · exact h1
  · have h2 : (bestF val cs).1 = -1 := by show (cs.foldl (fun b r => if b.1 < val r then (val r, r) else b) (-1, ⟨0, 0⟩)).1 = -1; rw [h1]
    omega
theorem bestF_first {val : Pair2 → Int} (cs : List Pair2) (hs : cs.Pairwise plt) : ∀ r ∈ cs, -1 < val r → val r = (bestF val cs).1 → (bestF val cs).2 = r ∨ plt (bestF val cs).2 r := by
  have gen : ∀ n (cs : List Pair2), cs.length = n → cs.Pairwise plt → ∀ r ∈ cs, -1 < val r → val r = (bestF val cs).1 → (bestF val cs).2 = r ∨ plt (bestF val cs).2 r := by
    intro n
    induction n with
    | zero => intro cs hn _ r hr; rw [List.length_eq_zero_iff.1 hn] at hr; cases hr
    | succ n ih =>
      intro cs hn hs r hr hp he
      obtain ⟨ys, x, rfl⟩ : ∃ ys x, cs = ys ++ [x] := ⟨cs.dropLast, cs.getLast (fun h => by rw [h] at hn; cases hn), (List.dropLast_concat_getLast _).symm⟩
      have hn2 : ys.length = n := by rw [List.length_append] at hn; simpa using hn
      obtain ⟨h1, _, h3⟩ := List.pairwise_append.1 hs
      rw [bestF_snoc] at he ⊢
      rcases List.mem_append.1 hr with hr | hr
      · have hle := bestF_ge (val := val) ys r hr
        by_cases hc : (bestF val ys).1 < val x
        · rw [if_pos hc] at he
          simp only at he
          omega
        · rw [if_neg hc] at he ⊢
          exact ih ys hn2 h1 r hr hp he
      · rw [List.mem_singleton] at hr
        subst hr
        by_cases hc : (bestF val ys).1 < val r
        · rw [if_pos hc]; exact Or.inl rfl
        · rw [if_neg hc] at he ⊢
          exact Or.inr (h3 _ (bestF_in (by omega)) _ (List.mem_singleton.2 rfl))
  exact gen _ cs rfl hs
theorem cho_pair (m0 m1 : Nat) : (choL m0 m1).Pairwise plt := by
  unfold choL
  rw [List.pairwise_map]
  refine List.Pairwise.imp ?_ List.pairwise_lt_range
  intro i j hij
  have e1 := Nat.div_add_mod i (m1 + 1)
  have e2 := Nat.div_add_mod j (m1 + 1)
  have hd : i / (m1 + 1) ≤ j / (m1 + 1) := Nat.div_le_div_right (Nat.le_of_lt hij)
  show ((i / (m1 + 1) : Nat) : Int) < ((j / (m1 + 1) : Nat) : Int) ∨ ((i / (m1 + 1) : Nat) : Int) = ((j / (m1 + 1) : Nat) : Int) ∧ ((i % (m1 + 1) : Nat) : Int) < ((j % (m1 + 1) : Nat) : Int)
  by_cases h : i / (m1 + 1) = j / (m1 + 1)
  · refine Or.inr ⟨by rw [h], ?_⟩
    rw [h] at e1
    generalize (m1 + 1) * (j / (m1 + 1)) = q at e1 e2
    generalize i % (m1 + 1) = u at e1
    generalize j % (m1 + 1) = v at e2
    omega
  · refine Or.inl ?_
    generalize i / (m1 + 1) = u at h hd
    generalize j / (m1 + 1) = v at h hd
    omega
section
variable {ls : List LakeM} {L H : Nat} {ti : List (List Int)} {pr en : List Int} {tr : List (List Int)}
/-- What the plan releases in hour k. -/
def planR (ls : List LakeM) (L H : Nat) (ti : List (List Int)) (pr en : List Int) (k : Nat) : Pair2 := (lookD ls L ti pr en (H - k) k (planK ls L H ti pr en k).1).2
theorem plan_first (hp : PlanOk ls L H ti pr en) {r : RunR} (hr : runK ls L ti tr H = some r) (hw : earnT ls L pr tr H + keptK en r.s.l0 r.s.l1 L = earnT ls L pr (planK ls L H ti pr en H).2 H + keptK en (planK ls L H ti pr en H).1.l0 (planK ls L H ti pr en H).1.l1 L) :
    ∀ (d k : Nat) (q : RunR), k + d = H → runK ls L ti tr k = some q → q.s = (planK ls L H ti pr en k).1 → earnT ls L pr tr k = earnT ls L pr (planK ls L H ti pr en H).2 k →
      (∀ h, k ≤ h → h < H → planR ls L H ti pr en h = rel2 L (tr.getD h [])) ∨ ∃ h, k ≤ h ∧ h < H ∧ (∀ h', k ≤ h' → h' < h → planR ls L H ti pr en h' = rel2 L (tr.getD h' [])) ∧ plt (planR ls L H ti pr en h) (rel2 L (tr.getD h []))
  | 0, k, q, hk, _, _, _ => Or.inl fun h h1 h2 => by omega
  | d + 1, k, q, hk, hq, hqs, he => by
    have hr2 : runK ls L ti tr ((k + 1) + d) = some r := by rw [show (k + 1) + d = H by omega]; exact hr
    obtain ⟨q', hq'⟩ := run_before hr2
    have g := good_run hp.ok hp.l hp.L2 (H := H) (fun h hh => hp.inb hh) (by omega) hq
    obtain ⟨h1, h2⟩ := run_succ hq hq'
    have hf := ask_fit hp (by omega) g h1
    have hle := run_le hp hr d (k + 1) q' (by omega) hq'
    have hpw := plan_worth hp (d + 1) k hk
    have hm := fit_mem hp (by omega) g hf
    have hb := bestF_ge (val := fun r => earnK ls (pr.getD k 0) r.a r.b L + (lookD ls L ti pr en d (k + 1) (next2 ls L (fullH L ti k q.s) r)).1) (choH ls L ti k q.s) _ hm
    have hfi := bestF_first (val := fun r => earnK ls (pr.getD k 0) r.a r.b L + (lookD ls L ti pr en d (k + 1) (next2 ls L (fullH L ti k q.s) r)).1) (choH ls L ti k q.s) (cho_pair _ _) _ hm
    have hnn := look_nn hp d (k + 1) _ (by omega) (fit_good hp (by omega) g hf)
    have hbd := fit_bd hp (by omega) g hf
    have hen := earn_bd hp (k := k) (by omega) hbd.1 hbd.2
    have e : q'.s = next2 ls L (fullH L ti k q.s) (rel2 L (tr.getD k [])) := h2
    have e3 : (lookD ls L ti pr en (d + 1) k q.s) = bestF (fun r => earnK ls (pr.getD k 0) r.a r.b L + (lookD ls L ti pr en d (k + 1) (next2 ls L (fullH L ti k q.s) r)).1) (choH ls L ti k q.s) := rfl
    have ep : planR ls L H ti pr en k = (lookD ls L ti pr en (d + 1) k q.s).2 := by unfold planR; rw [show H - k = d + 1 by omega, hqs]
    rw [← e3] at hb hfi
    rw [← hqs] at hpw
    have e2 : earnT ls L pr tr (k + 1) = earnT ls L pr tr k + earnH ls L pr tr k := rfl
    have e4 : earnH ls L pr tr k = earnK ls (pr.getD k 0) (rel2 L (tr.getD k [])).a (rel2 L (tr.getD k [])).b L := by unfold earnH; rw [earn_rel]

    rw [← e] at hb hfi hnn
    rcases hfi (by omega) (by omega) with h5 | h5
    · rw [← ep] at h5
      have es : q'.s = (planK ls L H ti pr en (k + 1)).1 := by
        rw [e, ← h5, hqs]; rfl
      have ee : earnT ls L pr tr (k + 1) = earnT ls L pr (planK ls L H ti pr en H).2 (k + 1) := by
        have e5 : earnT ls L pr (planK ls L H ti pr en H).2 (k + 1) = earnT ls L pr (planK ls L H ti pr en H).2 k + earnH ls L pr (planK ls L H ti pr en H).2 k := rfl
        have hpf : Fit ls L (fullH L ti k q.s) (planR ls L H ti pr en k) := by rw [h5]; exact hf
        have e6 : earnH ls L pr (planK ls L H ti pr en H).2 k = earnK ls (pr.getD k 0) (planR ls L H ti pr en k).a (planR ls L H ti pr en k).b L := by
          unfold earnH
          rw [plan_at (by omega), ← earn_rel]
          show earnK ls _ (rel2 L (listOf (planR ls L H ti pr en k).a (planR ls L H ti pr en k).b L)).a (rel2 L (listOf (planR ls L H ti pr en k).a (planR ls L H ti pr en k).b L)).b L = _
          rw [(fit_rel hpf hp.L2).1]
        rw [e2, e5, e6, e4, he, h5]
      rcases plan_first hp hr hw d (k + 1) q' (by omega) hq' es ee with h6 | ⟨h, h6, h7, h8, h9⟩
      · refine Or.inl fun h hk1 hh => ?_
        by_cases hc : h = k
        · subst hc; exact h5
        · exact h6 h (by omega) hh
      · refine Or.inr ⟨h, by omega, h7, fun h' hk1 hh => ?_, h9⟩
        by_cases hc : h' = k
        · subst hc; exact h5
        · exact h8 h' (by omega) hh
    · rw [← ep] at h5
      exact Or.inr ⟨k, Nat.le_refl _, by omega, fun h' hk1 hh => by omega, h5⟩
end
end Go.Proofs.Ytnhddmcdmcpkeaj
