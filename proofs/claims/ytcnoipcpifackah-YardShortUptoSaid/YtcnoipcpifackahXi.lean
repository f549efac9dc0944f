/- Where a move leads, by numbers: pure. -/
import Derived.Test.YtcnoipcpifackahXg
import Derived.Test.YtcnoipcpifackahZf
namespace Go.Proofs.Ytcnoipcpifackah
open Go.RowKit Go.Shelf

theorem bit_zero (b : Bool) (m : Nat) : bitN ((if b then 1 else 0) + 2 * m) 0 = b := by
  unfold bitN
  rw [Nat.pow_zero, Nat.div_one]
  cases b
  · exact decide_eq_false (by simp only [Bool.false_eq_true, if_false]; omega)
  · exact decide_eq_true (by simp only [if_true]; omega)
theorem bit_succ (b : Bool) (m j : Nat) : bitN ((if b then 1 else 0) + 2 * m) (j + 1) = bitN m j := by
  unfold bitN
  have e : ((if b then 1 else 0) + 2 * m) / 2 ^ (j + 1) = m / 2 ^ j := by
    have h2 : 2 ^ (j + 1) = 2 * 2 ^ j := by rw [Nat.pow_succ, Nat.mul_comm]
    rw [h2, ← Nat.div_div_eq_div_mul]
    congr 1
    cases b
    · simp only [Bool.false_eq_true, if_false]; omega
    · simp only [if_true]; omega
  rw [e]
theorem bit_code : ∀ (l : List Bool) (j : Nat), bitN (codeB l) j = l.getD j false
  | [], j => by
    show bitN 0 j = false
    unfold bitN
    rw [Nat.zero_div]
    rfl
  | b :: r, 0 => bit_zero b (codeB r)
  | b :: r, j + 1 => by
    show bitN ((if b then 1 else 0) + 2 * codeB r) (j + 1) = r.getD j false
    rw [bit_succ, bit_code r j]
theorem range_code (c : Nat) : ∀ n, codeB ((List.range n).map (bitN c)) = c % 2 ^ n
  | 0 => by rw [Nat.pow_zero, Nat.mod_one]; rfl
  | n + 1 => by
    rw [List.range_succ, List.map_append, List.map_singleton, code_snoc, range_code c n, List.length_map, List.length_range, Nat.mod_pow_succ]
    congr 1
    unfold bitN
    by_cases h : c / 2 ^ n % 2 = 1
    · rw [if_pos (decide_eq_true h), h, Nat.mul_one]
    · have h0 : c / 2 ^ n % 2 = 0 := by omega
      rw [if_neg (by rw [decide_eq_false h]; decide), h0, Nat.mul_zero]
theorem shuts_turn (ds : List DevM) (c : Nat) : shuts (turnK ds c ds.length) = (List.range ds.length).map (bitN c) := by
  apply List.ext_getElem (by rw [shuts_len, turnK_len, List.length_map, List.length_range])
  intro j h1 h2
  have hj : j < ds.length := by rw [shuts_len, turnK_len] at h1; exact h1
  have e : (shuts (turnK ds c ds.length))[j] = ((turnK ds c ds.length)[j]'(by rw [turnK_len]; exact hj)).shut := by simp [shuts]
  rw [e, turnK_get, if_pos hj, List.getElem_map, List.getElem_range]
/-- The number of the yard that a number tells is that number. -/
theorem code_turn (ds : List DevM) {c : Nat} (hc : c < 2 ^ ds.length) : codeB (shuts (turnK ds c ds.length)) = c := by
  rw [shuts_turn, range_code, Nat.mod_eq_of_lt hc]
/-- Devices that differ in nothing but whether they are closed. -/
def AlikeD (ds ds' : List DevM) : Prop := ds'.length = ds.length ∧ ∀ j (h : j < ds.length) (h' : j < ds'.length), ds'[j] = { ds[j] with shut := ds'[j].shut }
theorem AlikeD.refl (ds : List DevM) : AlikeD ds ds := ⟨rfl, fun _ _ _ => rfl⟩
theorem AlikeD.trans {a b c : List DevM} (h1 : AlikeD a b) (h2 : AlikeD b c) : AlikeD a c := by
  refine ⟨h2.1.trans h1.1, fun j h h' => ?_⟩
  have hb : j < b.length := by rw [h1.1]; exact h
  rw [h2.2 j hb h', h1.2 j h hb]
theorem alike_turn (ds : List DevM) (c k : Nat) : AlikeD ds (turnK ds c k) := by
  refine ⟨turnK_len ds c k, fun j h h' => ?_⟩
  rw [turnK_get]
  split <;> rfl
theorem turn_code {ds ds' : List DevM} (h : AlikeD ds ds') : turnK ds (codeB (shuts ds')) ds.length = ds' := by
  apply List.ext_getElem (by rw [turnK_len, h.1])
  intro j h1 h2
  have hj : j < ds.length := by rw [turnK_len] at h1; exact h1
  have e : bitN (codeB (shuts ds')) j = ds'[j].shut := by
    rw [bit_code, List.getD_eq_getElem?_getD, List.getElem?_eq_getElem (by rw [shuts_len]; exact h2)]
    simp [shuts]
  rw [turnK_get, if_pos hj, e, ← h.2 j hj h2]
/-- One sign is turned. -/
theorem code_flip : ∀ (l : List Bool) (k : Nat), k < l.length → codeB (l.modify k (fun b => !b)) + (if l.getD k false then 2 ^ k else 0) = codeB l + (if l.getD k false then 0 else 2 ^ k)
  | [], k, h => absurd h (Nat.not_lt_zero _)
  | b :: r, 0, _ => by
    show (if !b then 1 else 0) + 2 * codeB r + (if b then 2 ^ 0 else 0) = (if b then 1 else 0) + 2 * codeB r + (if b then 0 else 2 ^ 0)
    cases b <;> simp <;> omega
  | b :: r, k + 1, h => by
    have ih := code_flip r k (by simpa using h)
    show (if b then 1 else 0) + 2 * codeB (r.modify k (fun b => !b)) + (if r.getD k false then 2 ^ (k + 1) else 0) = (if b then 1 else 0) + 2 * codeB r + (if r.getD k false then 0 else 2 ^ (k + 1))
    obtain ⟨s, hs⟩ : ∃ s, s = r.getD k false := ⟨_, rfl⟩
    rw [← hs] at ih ⊢
    rw [Nat.pow_succ]
    cases s
    · simp only [Bool.false_eq_true, if_false] at ih ⊢
      omega
    · simp only [if_true] at ih ⊢
      omega
end Go.Proofs.Ytcnoipcpifackah
namespace Go.Proofs.Ytcnoipcpifackah
open Go.RowKit Go.Shelf

/-- The yard that a number tells. -/
def YardM.at (y : YardM) (c : Nat) : YardM := { y with devs := turnK y.devs c y.devs.length }
theorem at_len (y : YardM) (c : Nat) : (y.at c).devs.length = y.devs.length := turnK_len _ _ _
theorem at_may {y : YardM} (h : MayY y) (c : Nat) : MayY (y.at c) := by
  refine ⟨h.p, by rw [at_len]; exact h.d, h.f, h.w, fun d hd => ?_⟩
  obtain ⟨j, hj, rfl⟩ := List.mem_iff_getElem.1 hd
  have hj' : j < y.devs.length := by rw [at_len] at hj; exact hj
  have h1 := h.o _ (List.getElem_mem hj')
  have e : (y.at c).devs[j] = { y.devs[j] with shut := bitN c j } := (turnK_get y.devs c y.devs.length j hj).trans (if_pos hj')
  rw [e]
  exact h1
/-- The number of a yard. -/
def YardM.code (y : YardM) : Nat := codeB (shuts y.devs)
theorem code_bd (y : YardM) : y.code < 2 ^ y.devs.length := by
  have := code_lt (shuts y.devs)
  rwa [shuts_len] at this
theorem at_code {y : YardM} {ds : List DevM} (h : AlikeD y.devs ds) : y.at (codeB (shuts ds)) = { y with devs := ds } := by
  unfold YardM.at
  rw [turn_code h]
theorem at_self (y : YardM) : y.at y.code = y := at_code (AlikeD.refl _)
theorem code_at (y : YardM) {c : Nat} (hc : c < 2 ^ y.devs.length) : (y.at c).code = c := code_turn y.devs hc
theorem alike_modify (ds : List DevM) (k : Nat) : AlikeD ds (ds.modify k DevM.turn) := by
  refine ⟨List.length_modify _ _ _, fun j h h' => ?_⟩
  rw [List.getElem_modify]
  split <;> rfl
/-- Where a move leads. -/
def leadF (y : YardM) (c k : Nat) : Option Nat := if k < y.devs.length ∧ c < 2 ^ y.devs.length ∧ soundB (y.at c) = true ∧ moveErr (y.at c) k = 0 then some ((y.at c).turn k).code else none
theorem lead_some {y : YardM} (hm : MayY y) {c k t : Nat} (h : leadF y c k = some t) : k < y.devs.length ∧ c < 2 ^ y.devs.length ∧ t < 2 ^ y.devs.length ∧ moveErr (y.at c) k = 0 ∧ y.at t = (y.at c).turn k ∧ soundB (y.at t) = true ∧ t = ((y.at c).turn k).code := by
  unfold leadF at h
  split at h
  · next h1 =>
    cases h
    have hl : ((y.at c).turn k).devs.length = y.devs.length := by
      show ((y.at c).devs.modify k DevM.turn).length = _
      rw [List.length_modify, at_len]
    have hb := code_bd ((y.at c).turn k)
    rw [hl] at hb
    have ha : AlikeD y.devs ((y.at c).turn k).devs := AlikeD.trans (alike_turn y.devs c y.devs.length) (alike_modify _ k)
    have he : y.at ((y.at c).turn k).code = (y.at c).turn k := by
      unfold YardM.code
      rw [at_code ha]
      rfl
    refine ⟨h1.1, h1.2.1, hb, h1.2.2.2, he, ?_, rfl⟩
    rw [he]
    exact turn_sound (at_may hm c) h1.2.2.1 (by rw [at_len]; exact h1.1) h1.2.2.2
  · cases h
theorem lead_is {y : YardM} {c k : Nat} (hk : k < y.devs.length) (hc : c < 2 ^ y.devs.length) (hs : soundB (y.at c) = true) : leadF y c k = if moveErr (y.at c) k = 0 then some ((y.at c).turn k).code else none := by
  unfold leadF
  by_cases h : moveErr (y.at c) k = 0
  · rw [if_pos ⟨hk, hc, hs, h⟩, if_pos h]
  · rw [if_neg (fun q => h q.2.2.2), if_neg h]
theorem lead_unsound {y : YardM} {c k : Nat} (hs : soundB (y.at c) = false) : leadF y c k = none := by
  unfold leadF
  rw [if_neg (fun q => by rw [hs] at q; exact absurd q.2.2.1 (by decide))]
/-- The number that a move leads to: one bit is turned. -/
theorem code_turned (y : YardM) (c : Nat) {k : Nat} (hk : k < y.devs.length) (hc : c < 2 ^ y.devs.length) : ((y.at c).turn k).code + (if bitN c k then 2 ^ k else 0) = c + (if bitN c k then 0 else 2 ^ k) := by
  have hk' : k < (shuts (y.at c).devs).length := by rw [shuts_len, at_len]; exact hk
  have h := code_flip (shuts (y.at c).devs) k hk'
  have e1 : codeB (shuts (y.at c).devs) = c := code_at y hc
  have e2 : (shuts (y.at c).devs).getD k false = bitN c k := by rw [← bit_code, e1]
  have e3 : (shuts (y.at c).devs).modify k (fun b => !b) = shuts ((y.at c).turn k).devs := by
    apply List.ext_getElem (by rw [List.length_modify, shuts_len, shuts_len]; exact (List.length_modify _ _ _).symm)
    intro j h1 h2
    rw [List.getElem_modify]
    have hj : j < (y.at c).devs.length := by rw [List.length_modify, shuts_len] at h1; exact h1
    have g1 : (shuts (y.at c).devs)[j]'(by rw [shuts_len]; exact hj) = ((y.at c).devs[j]).shut := by simp [shuts]
    have g2 : (shuts ((y.at c).turn k).devs)[j] = (((y.at c).devs.modify k DevM.turn)[j]'(by rw [List.length_modify]; exact hj)).shut := by simp [shuts, YardM.turn]
    rw [g2, List.getElem_modify]
    split
    · rw [g1]; rfl
    · exact g1
  rw [e1, e2, e3] at h
  exact h
end Go.Proofs.Ytcnoipcpifackah
