/- The best of the hours ahead, and what is known of it. -/
import Derived.Test.YtnhddmcdmcpkeajV4
import Derived.Test.YtnhddmcdmcpkeajWe
import Derived.Maps.Keyed
import Derived.DeepKeys4
import Derived.Maps.Own
namespace Go.Proofs.Ytnhddmcdmcpkeaj
open Go.RowKit Go.Shelf Go.ChangeMaps

def bestF (val : Pair2 → Int) (cs : List Pair2) : Int × Pair2 := cs.foldl (fun b r => if b.1 < val r then (val r, r) else b) (-1, ⟨0, 0⟩)
theorem bestF_snoc (val : Pair2 → Int) (cs : List Pair2) (r : Pair2) : bestF val (cs ++ [r]) = if (bestF val cs).1 < val r then (val r, r) else bestF val cs := by
  unfold bestF; rw [List.foldl_append]; rfl
structure PlanOk (ls : List LakeM) (L H : Nat) (ti : List (List Int)) (pr en : List Int) : Prop where
  ok : ∀ k ∈ ls, LakeOk k
  l : ls.length = L
  L2 : L ≤ 2
  H8 : H ≤ 8
  t : ti.length = H
  tr : ∀ l ∈ ti, l.length = L
  ti : ∀ l ∈ ti, ∀ x ∈ l, 0 ≤ x ∧ x ≤ 10
  p : pr.length = H
  pb : ∀ x ∈ pr, 0 ≤ x ∧ x ≤ 1000
  e : en.length = L
  eb : ∀ x ∈ en, 0 ≤ x ∧ x ≤ 1000
def fullH (L : Nat) (ti : List (List Int)) (h : Nat) (s : Stnd) : Pair2 := full2 L s (ti.getD h [])
def choH (ls : List LakeM) (L : Nat) (ti : List (List Int)) (h : Nat) (s : Stnd) : List Pair2 := choL (free2 ls L (fullH L ti h s)).a.toNat (free2 ls L (fullH L ti h s)).b.toNat
/-- What hours from h on are worth at most, d of them, and what is released first. -/
def lookD (ls : List LakeM) (L : Nat) (ti : List (List Int)) (pr en : List Int) : Nat → Nat → Stnd → Int × Pair2
  | 0, _, s => (keptK en s.l0 s.l1 L, ⟨0, 0⟩)
  | d + 1, h, s => bestF (fun r => earnK ls (pr.getD h 0) r.a r.b L + (lookD ls L ti pr en d (h + 1) (next2 ls L (fullH L ti h s) r)).1) (choH ls L ti h s)
/-- A release that may be. -/
structure Fit (ls : List LakeM) (L : Nat) (f r : Pair2) : Prop where
  a0 : 0 ≤ r.a
  a1 : r.a ≤ (free2 ls L f).a
  b0 : 0 ≤ r.b
  b1 : r.b ≤ (free2 ls L f).b
section
variable {ls : List LakeM} {L H : Nat} {ti : List (List Int)} {pr en : List Int}
theorem getD_mem {l : List Int} {k : Nat} (h : k < l.length) : l.getD k 0 ∈ l := by rw [List.getD_eq_getElem?_getD, List.getElem?_eq_getElem h]; exact List.getElem_mem h
theorem PlanOk.inb (h : PlanOk ls L H ti pr en) {k : Nat} (hk : k < H) : ∀ i, i < L → 0 ≤ (ti.getD k []).getD i 0 ∧ (ti.getD k []).getD i 0 ≤ 10 := fun i hi => by
  have hk' : k < ti.length := by rw [h.t]; exact hk
  rw [getD_at hk']
  exact h.ti _ (List.getElem_mem hk') _ (getD_mem (by rw [h.tr _ (List.getElem_mem hk')]; exact hi))
theorem free_nn (h : PlanOk ls L H ti pr en) {k : Nat} (hk : k < H) {s : Stnd} (g : Good ls L s) : (0 ≤ (free2 ls L (fullH L ti k s)).a ∧ (free2 ls L (fullH L ti k s)).a ≤ 4) ∧ (0 ≤ (free2 ls L (fullH L ti k s)).b ∧ (free2 ls L (fullH L ti k s)).b ≤ 4) := by
  have hin := h.inb hk
  constructor
  · show 0 ≤ (if 0 < L then _ else _) ∧ (if 0 < L then _ else _) ≤ _
    by_cases h0 : 0 < L
    · rw [if_pos h0]
      have ok := lkD_ok h.ok (i := 0) (by rw [h.l]; exact h0)
      have := ok.t
      have := g.a h0
      have := g.u
      have := hin 0 h0
      have e : (fullH L ti k s).a = fillOf (ti.getD k []) s.l0 s.u0 0 := if_pos h0
      rw [e]
      unfold freeOf fillOf
      split <;> omega
    · rw [if_neg h0]; decide
  · show 0 ≤ (if 1 < L then _ else _) ∧ (if 1 < L then _ else _) ≤ _
    by_cases h0 : 1 < L
    · rw [if_pos h0]
      have ok := lkD_ok h.ok (i := 1) (by rw [h.l]; exact h0)
      have := ok.t
      have := g.b h0
      have := g.v
      have := hin 1 h0
      have e : (fullH L ti k s).b = fillOf (ti.getD k []) s.l1 s.u1 1 := if_pos h0
      rw [e]
      unfold freeOf fillOf
      split <;> omega
    · rw [if_neg h0]; decide
theorem cho_mem {m0 m1 : Nat} {r : Pair2} (h : r ∈ choL m0 m1) : 0 ≤ r.a ∧ r.a ≤ m0 ∧ 0 ≤ r.b ∧ r.b ≤ m1 := by
  unfold choL at h
  obtain ⟨j, hj, rfl⟩ := List.mem_map.1 h
  rw [List.mem_range] at hj
  unfold choA
  have h1 : j / (m1 + 1) < m0 + 1 := (Nat.div_lt_iff_lt_mul (by omega)).2 hj
  have h2 : j % (m1 + 1) < m1 + 1 := Nat.mod_lt _ (by omega)
  generalize j / (m1 + 1) = q at h1
  generalize j % (m1 + 1) = p at h2
  refine ⟨?_, ?_, ?_, ?_⟩ <;> simp only <;> omega
theorem cho_fit (h : PlanOk ls L H ti pr en) {k : Nat} (hk : k < H) {s : Stnd} (g : Good ls L s) {r : Pair2} (hr : r ∈ choH ls L ti k s) : Fit ls L (fullH L ti k s) r := by
  have h1 := free_nn h hk g
  have h2 := cho_mem hr
  exact ⟨h2.1, by omega, h2.2.2.1, by omega⟩
theorem fit_rel {f r : Pair2} (h : Fit ls L f r) (_hL : L ≤ 2) : rel2 L (listOf r.a r.b L) = r ∧ askB (listOf r.a r.b L) (free2 ls L f).a (free2 ls L f).b L = true := by
  obtain ⟨ra, rb⟩ := r
  have ha : ¬ 0 < L → ra = 0 := fun h0 => by have h1 := h.a0; have h2 := h.a1; have e : (free2 ls L f).a = 0 := if_neg h0; rw [e] at h2; exact Int.le_antisymm h2 h1
  have hb : ¬ 1 < L → rb = 0 := fun h0 => by have h1 := h.b0; have h2 := h.b1; have e : (free2 ls L f).b = 0 := if_neg h0; rw [e] at h2; exact Int.le_antisymm h2 h1
  refine ⟨?_, askB_iff.2 ⟨fun h0 => by rw [list_at0 _ _ h0]; exact ⟨h.a0, h.a1⟩, fun h0 => by rw [list_at1 _ _ h0]; exact ⟨h.b0, h.b1⟩⟩⟩
  unfold rel2
  congr 1
  · split
    · next h0 => exact list_at0 _ _ h0
    · next h0 => exact (ha h0).symm
  · split
    · next h0 => exact list_at1 _ _ h0
    · next h0 => exact (hb h0).symm
theorem fit_hour {k : Nat} {s : Stnd} {r : Pair2} (h : Fit ls L (fullH L ti k s) r) (hL : L ≤ 2) : hourOk ls L s (ti.getD k []) (listOf r.a r.b L) = true ∧ hourS ls L s (ti.getD k []) (listOf r.a r.b L) = next2 ls L (fullH L ti k s) r := by
  have h1 := fit_rel h hL
  refine ⟨h1.2, ?_⟩
  unfold hourS
  rw [h1.1]
  rfl
theorem fit_good (h : PlanOk ls L H ti pr en) {k : Nat} (hk : k < H) {s : Stnd} (g : Good ls L s) {r : Pair2} (hr : Fit ls L (fullH L ti k s) r) : Good ls L (next2 ls L (fullH L ti k s) r) := by
  have h1 := fit_hour hr h.L2
  rw [← h1.2]
  exact good_hour h.ok h.l h.L2 (h.inb hk) g h1.1
theorem earn_bd (h : PlanOk ls L H ti pr en) {k : Nat} (hk : k < H) {r : Pair2} (ha : 0 ≤ r.a ∧ r.a ≤ 4) (hb : 0 ≤ r.b ∧ r.b ≤ 4) : 0 ≤ earnK ls (pr.getD k 0) r.a r.b L ∧ earnK ls (pr.getD k 0) r.a r.b L ≤ 8000000 := by
  have hp := h.pb _ (getD_mem (l := pr) (k := k) (by rw [h.p]; exact hk))
  have one : ∀ i x, i < L → 0 ≤ x ∧ x ≤ 4 → 0 ≤ x * (lkD ls i).worth * pr.getD k 0 ∧ x * (lkD ls i).worth * pr.getD k 0 ≤ 4000000 := fun i x hi hx => by
    have hw := (lkD_ok h.ok (i := i) (by rw [h.l]; exact hi)).w
    have m1 := mul_bd (a := x) (b := (lkD ls i).worth) (A := 4) (B := 1000) hx.1 hx.2 hw.1 hw.2
    exact mul_bd (A := 4000) (B := 1000) m1.1 m1.2 hp.1 hp.2
  unfold earnK
  by_cases h0 : 0 < L
  · rw [if_pos h0]
    have := one 0 r.a h0 ha
    by_cases h1 : 1 < L
    · rw [if_pos h1]
      have := one 1 r.b h1 hb
      omega
    · rw [if_neg h1]; omega
  · rw [if_neg h0, if_neg (by omega)]; decide
theorem kept_bd (h : PlanOk ls L H ti pr en) {s : Stnd} (g : Good ls L s) : 0 ≤ keptK en s.l0 s.l1 L ∧ keptK en s.l0 s.l1 L ≤ 40000 := by
  have gb := good_bounds h.ok h.l g
  have one : ∀ i x, i < L → 0 ≤ x ∧ x ≤ 20 → 0 ≤ x * en.getD i 0 ∧ x * en.getD i 0 ≤ 20000 := fun i x hi hx => by
    have he := h.eb _ (getD_mem (l := en) (k := i) (by rw [h.e]; exact hi))
    exact mul_bd (A := 20) (B := 1000) hx.1 hx.2 he.1 he.2
  unfold keptK
  by_cases h0 : 0 < L
  · rw [if_pos h0]
    have := one 0 s.l0 h0 ⟨gb.1.1, gb.1.2.1⟩
    by_cases h1 : 1 < L
    · rw [if_pos h1]
      have := one 1 s.l1 h1 ⟨gb.1.2.2.1, gb.1.2.2.2⟩
      omega
    · rw [if_neg h1]; omega
  · rw [if_neg h0, if_neg (by omega)]; decide
theorem bestF_bd {val : Pair2 → Int} {B : Int} (hB : -1 ≤ B) : ∀ (cs : List Pair2), (∀ r ∈ cs, val r ≤ B) → -1 ≤ (bestF val cs).1 ∧ (bestF val cs).1 ≤ B := by
  intro cs
  have gen : ∀ (cs : List Pair2) (b : Int × Pair2), (-1 ≤ b.1 ∧ b.1 ≤ B) → (∀ r ∈ cs, val r ≤ B) → -1 ≤ (cs.foldl (fun b r => if b.1 < val r then (val r, r) else b) b).1 ∧ (cs.foldl (fun b r => if b.1 < val r then (val r, r) else b) b).1 ≤ B := by
    intro cs
    induction cs with
    | nil => intro b hb _; exact hb
    | cons r cs ih =>
      intro b hb hr
      rw [List.foldl_cons]
      refine ih _ ?_ (fun q hq => hr q (List.mem_cons_of_mem _ hq))
      split
      · have := hr r (List.mem_cons_self ..)
        exact ⟨by simp only; omega, this⟩
      · exact hb
  exact gen cs (-1, ⟨0, 0⟩) ⟨by decide, hB⟩
theorem bestF_mem {val : Pair2 → Int} : ∀ (cs : List Pair2), (bestF val cs).2 ∈ cs ∨ (bestF val cs).2 = ⟨0, 0⟩ := by
  have gen : ∀ (cs : List Pair2) (b : Int × Pair2), (cs.foldl (fun b r => if b.1 < val r then (val r, r) else b) b).2 ∈ cs ∨ (cs.foldl (fun b r => if b.1 < val r then (val r, r) else b) b).2 = b.2 := by
    intro cs
    induction cs with
    | nil => intro b; exact Or.inr rfl
    | cons r cs ih =>
      intro b
      rw [List.foldl_cons]
      rcases ih (if b.1 < val r then (val r, r) else b) with h | h
      · exact Or.inl (List.mem_cons_of_mem _ h)
      · rw [h]
        split
        · exact Or.inl (List.mem_cons_self ..)
        · exact Or.inr rfl
  intro cs
  exact gen cs (-1, ⟨0, 0⟩)
theorem fit_zero (h : PlanOk ls L H ti pr en) {k : Nat} (hk : k < H) {s : Stnd} (g : Good ls L s) : Fit ls L (fullH L ti k s) ⟨0, 0⟩ := by
  have := free_nn h hk g
  exact ⟨by decide, this.1.1, by decide, this.2.1⟩
theorem fit_bd (h : PlanOk ls L H ti pr en) {k : Nat} (hk : k < H) {s : Stnd} (g : Good ls L s) {r : Pair2} (hr : Fit ls L (fullH L ti k s) r) : (0 ≤ r.a ∧ r.a ≤ 4) ∧ (0 ≤ r.b ∧ r.b ≤ 4) := by
  have := free_nn h hk g
  have h1 := hr.a0; have h2 := hr.a1; have h3 := hr.b0; have h4 := hr.b1
  omega
theorem look_bd (h : PlanOk ls L H ti pr en) : ∀ (d k : Nat) (s : Stnd), k + d = H → Good ls L s → -1 ≤ (lookD ls L ti pr en d k s).1 ∧ (lookD ls L ti pr en d k s).1 ≤ 40000 + 8000000 * d
  | 0, k, s, _, g => by have := kept_bd h g; show -1 ≤ keptK en s.l0 s.l1 L ∧ keptK en s.l0 s.l1 L ≤ _; omega
  | d + 1, k, s, hk, g => by
    refine bestF_bd (by omega) _ fun r hr => ?_
    have hf := cho_fit h (by omega) g hr
    have hb := fit_bd h (by omega) g hf
    have h1 := look_bd h d (k + 1) _ (by omega) (fit_good h (by omega) g hf)
    have h2 := earn_bd h (k := k) (by omega) hb.1 hb.2
    omega
theorem look_fit (h : PlanOk ls L H ti pr en) {d k : Nat} {s : Stnd} (hk : k + (d + 1) = H) (g : Good ls L s) : Fit ls L (fullH L ti k s) (lookD ls L ti pr en (d + 1) k s).2 := by
  rcases bestF_mem (val := fun r => earnK ls (pr.getD k 0) r.a r.b L + (lookD ls L ti pr en d (k + 1) (next2 ls L (fullH L ti k s) r)).1) (choH ls L ti k s) with h1 | h1
  · exact cho_fit h (by omega) g h1
  · show Fit _ _ _ (bestF _ _).2
    rw [h1]
    exact fit_zero h (by omega) g
end
end Go.Proofs.Ytnhddmcdmcpkeaj
