/- To the last drop. -/
import Derived.Test.YtnhddmcdmcpkeajWb
namespace Go.Proofs.Ytnhddmcdmcpkeaj
open Go.RowKit Go.Shelf

theorem list_at0 (a b : Int) {L : Nat} (h : 0 < L) : (listOf a b L).getD 0 0 = a := by
  unfold listOf
  cases L with
  | zero => omega
  | succ n => rfl
theorem list_at1 (a b : Int) {L : Nat} (h : 1 < L) : (listOf a b L).getD 1 0 = b := by
  unfold listOf
  match L, h with
  | n + 2, _ => rfl
theorem list_len (a b : Int) {L : Nat} (h : L ≤ 2) : (listOf a b L).length = L := by unfold listOf; simp; omega
theorem good_run {ls : List LakeM} {L : Nat} {ti tr : List (List Int)} (hok : ∀ k ∈ ls, LakeOk k) (hl : ls.length = L) (hL : L ≤ 2) {H : Nat} (hin : ∀ h, h < H → ∀ i, i < L → 0 ≤ (ti.getD h []).getD i 0 ∧ (ti.getD h []).getD i 0 ≤ 10) : ∀ {k : Nat} {r : RunR}, k ≤ H → runK ls L ti tr k = some r → Good ls L r.s
  | 0, r, _, h => by
    unfold runK at h
    cases h
    exact good_start hok hl
  | k + 1, r, hk, h => by
    unfold runK at h
    split at h
    · cases h
    · next r0 h0 =>
      split at h
      · next hq =>
        cases h
        exact good_hour hok hl hL (hin k (by omega)) (good_run hok hl hL hin (by omega) h0) hq
      · cases h
theorem run_at {ls : List LakeM} {L : Nat} {ti tr : List (List Int)} : ∀ {H : Nat} {r : RunR}, runK ls L ti tr H = some r → ∀ h, h < H → ∃ q : RunR, runK ls L ti tr h = some q ∧ hourOk ls L q.s (ti.getD h []) (tr.getD h []) = true ∧ r.lv.getD h [] = listOf (hourS ls L q.s (ti.getD h []) (tr.getD h [])).l0 (hourS ls L q.s (ti.getD h []) (tr.getD h [])).l1 L ∧ r.sp.getD h [] = listOf (hourV ls L q.s (ti.getD h []) (tr.getD h [])).a (hourV ls L q.s (ti.getD h []) (tr.getD h [])).b L
  | 0, r, _, h, hh => by omega
  | H + 1, r, hr, h, hh => by
    unfold runK at hr
    split at hr
    · cases hr
    · next r0 h0 =>
      split at hr
      · next hq =>
        cases hr
        obtain ⟨e1, e2⟩ := run_len h0
        by_cases hlt : h < H
        · obtain ⟨q, q1, q2, q3, q4⟩ := run_at h0 h hlt
          refine ⟨q, q1, q2, ?_, ?_⟩
          · rw [← q3, List.getD_eq_getElem?_getD]
            show (r0.lv ++ _)[h]?.getD [] = _
            rw [List.getElem?_append_left (by omega), List.getD_eq_getElem?_getD]
          · rw [← q4, List.getD_eq_getElem?_getD]
            show (r0.sp ++ _)[h]?.getD [] = _
            rw [List.getElem?_append_left (by omega), List.getD_eq_getElem?_getD]
        · obtain rfl : h = H := by omega
          refine ⟨r0, h0, hq, ?_, ?_⟩
          · rw [List.getD_eq_getElem?_getD]
            show (r0.lv ++ _)[h]?.getD [] = _
            rw [List.getElem?_append_right (by omega), e1, Nat.sub_self]
            rfl
          · rw [List.getD_eq_getElem?_getD]
            show (r0.sp ++ _)[h]?.getD [] = _
            rw [List.getElem?_append_right (by omega), e2, Nat.sub_self]
            rfl
      · cases hr
/-- What an hour is, lake by lake. -/
structure LakeF (k : LakeM) (n v r i b : Int) : Prop where
  le : k.least ≤ n
  mo : n ≤ k.most
  v0 : 0 ≤ v
  fl : 0 < v → ¬ n < k.most
  eq : n + v + r = b + i
  r0 : 0 ≤ r ∧ r ≤ 4
  k0 : 0 ≤ k.least ∧ k.most ≤ 20
theorem hour_facts {ls : List LakeM} {L : Nat} {s : Stnd} {ir rr : List Int} (hok : ∀ k ∈ ls, LakeOk k) (hl : ls.length = L) (hL : L ≤ 2) (hin : ∀ i, i < L → 0 ≤ ir.getD i 0 ∧ ir.getD i 0 ≤ 10) (g : Good ls L s) (h : hourOk ls L s ir rr = true) :
    (0 < L → LakeF (lkD ls 0) (hourS ls L s ir rr).l0 (hourV ls L s ir rr).a (rr.getD 0 0) (ir.getD 0 0) s.l0) ∧ (1 < L → LakeF (lkD ls 1) (hourS ls L s ir rr).l1 (hourV ls L s ir rr).b (rr.getD 1 0) (ir.getD 1 0) (s.l1 + s.u1)) ∧ (1 < L → (hourS ls L s ir rr).u1 = rr.getD 0 0 + (hourV ls L s ir rr).a) := by
  have hq := askB_iff.1 h
  have e0 : ∀ h0 : 0 < L, (full2 L s ir).a = fillOf ir s.l0 s.u0 0 := fun h0 => if_pos h0
  have e1 : ∀ h0 : 1 < L, (full2 L s ir).b = fillOf ir s.l1 s.u1 1 := fun h0 => if_pos h0
  have r0 : ∀ h0 : 0 < L, (rel2 L rr).a = rr.getD 0 0 := fun h0 => if_pos h0
  have r1 : ∀ h0 : 1 < L, (rel2 L rr).b = rr.getD 1 0 := fun h0 => if_pos h0
  refine ⟨fun h0 => ?_, fun h0 => ?_, fun h0 => ?_⟩
  · have ok := lkD_ok hok (i := 0) (by omega)
    have q := hq.1 h0
    have ef : (free2 ls L (full2 L s ir)).a = freeOf (lkD ls 0) (full2 L s ir).a := if_pos h0
    rw [ef] at q
    have g1 := g.a h0; have g2 := g.u; have g3 := hin 0 h0
    have hf := e0 h0
    unfold fillOf at hf
    obtain ⟨k1, k2, k3, k4, k5, k6, k7⟩ := lake_hour ok (f := (full2 L s ir).a) (r := rr.getD 0 0) (by omega) q
    have n0 : (hourS ls L s ir rr).l0 = levOf (lkD ls 0) (full2 L s ir).a (rr.getD 0 0) := by rw [← r0 h0]; exact if_pos h0
    have v0 : (hourV ls L s ir rr).a = spOf (lkD ls 0) (full2 L s ir).a (rr.getD 0 0) := by rw [← r0 h0]; exact if_pos h0
    rw [n0, v0]
    exact ⟨k1, k2, k3, k5, by omega, ⟨q.1, k7⟩, ok.l, ok.x⟩
  · have ok := lkD_ok hok (i := 1) (by omega)
    have q := hq.2 h0
    have ef : (free2 ls L (full2 L s ir)).b = freeOf (lkD ls 1) (full2 L s ir).b := if_pos h0
    rw [ef] at q
    have g1 := g.b h0; have g2 := g.v; have g3 := hin 1 h0
    have hf := e1 h0
    unfold fillOf at hf
    obtain ⟨k1, k2, k3, k4, k5, k6, k7⟩ := lake_hour ok (f := (full2 L s ir).b) (r := rr.getD 1 0) (by omega) q
    have n0 : (hourS ls L s ir rr).l1 = levOf (lkD ls 1) (full2 L s ir).b (rr.getD 1 0) := by rw [← r1 h0]; exact if_pos h0
    have v0 : (hourV ls L s ir rr).b = spOf (lkD ls 1) (full2 L s ir).b (rr.getD 1 0) := by rw [← r1 h0]; exact if_pos h0
    rw [n0, v0]
    exact ⟨k1, k2, k3, k5, by omega, ⟨q.1, k7⟩, ok.l, ok.x⟩
  · have h2 : 0 < L ∧ L = 2 := by omega
    have v0 : (hourV ls L s ir rr).a = spOf (lkD ls 0) (full2 L s ir).a (rr.getD 0 0) := by rw [← r0 (by omega)]; exact if_pos (by omega)
    rw [v0]
    show (if 0 < L ∧ L = 2 then (rel2 L rr).a + spOf (lkD ls 0) (full2 L s ir).a (rel2 L rr).a else 0) = _
    rw [if_pos h2, r0 (by omega)]
/-- A table's number. -/
theorem tab_cell2 {W : World} {a : Option Addr} {H c h i L : Nat} {t : List (List Int)} (ht : TabAt W (.slice a H c) t) (hh : h < t.length) (hl : (t.getD h []).length = L) (hi : i < L) : ∃ b o c2 b2 o2, a = some ⟨b, o, none⟩ ∧ W.cell? ⟨b, o + h, none⟩ = some (.slice (some ⟨b2, o2, none⟩) L c2) ∧ W.cell? ⟨b2, o2 + i, none⟩ = some (.int .i64 ((t.getD h []).getD i 0)) := by
  obtain ⟨b, off, c1, a2, c2, ex, hcell, hrow⟩ := ht.cell h hh
  rw [← getD_at hh] at hcell hrow
  simp only [Value.slice.injEq] at ex
  rw [hl] at hcell
  obtain ⟨b2, o2, c3, ex2, hc2⟩ := ints_cell hrow i (by omega)
  simp only [Value.slice.injEq] at ex2
  rw [ex2.1] at hcell
  exact ⟨b, off, c2, b2, o2, ex.1, hcell, hc2⟩
/-- The sums of an hour, so far. -/
def Sums (L i : Nat) (hv gn n0 n1 v0 v1 r0 r1 i0 i1 a b c d : Int) : Prop :=
  (i = 0 → a = hv ∧ b = gn ∧ c = 0 ∧ d = 0) ∧ (i = 1 → a = hv + i0 ∧ c = n0 ∧ ((L = 1 → b = gn + (r0 + v0) ∧ d = 0) ∧ (L = 2 → b = gn ∧ d = r0 + v0))) ∧ (i = 2 → a = hv + i0 + i1 ∧ c = n0 + n1 ∧ b = gn + (r1 + v1) ∧ d = r0 + v0)
end Go.Proofs.Ytnhddmcdmcpkeaj
