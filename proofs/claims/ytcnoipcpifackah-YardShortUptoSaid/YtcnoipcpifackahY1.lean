/- What the document's rounds come to: the points that are together with some. -/
import Derived.Test.YtcnoipcpifackahY0
namespace Go.Proofs.Ytcnoipcpifackah
open Go.RowKit Go.Shelf

def stepT (l : List Bool) (d : DevM) : List Bool := if d.joins && (l.getD d.a.toNat false || l.getD d.b.toNat false) then (l.set d.a.toNat true).set d.b.toNat true else l
def roundT (ds : List DevM) (l : List Bool) : List Bool := ds.foldl stepT l
def togK (ds : List DevM) : Nat → List Bool → List Bool
  | 0, l => l
  | k + 1, l => roundT ds (togK ds k l)
def LeB (l l' : List Bool) : Prop := ∀ p, l.getD p false = true → l'.getD p false = true
theorem LeB.refl (l : List Bool) : LeB l l := fun _ h => h
theorem LeB.trans {a b c : List Bool} (h : LeB a b) (h' : LeB b c) : LeB a c := fun p hp => h' p (h p hp)
theorem bool_set_get (l : List Bool) (a p : Nat) (x : Bool) : (l.set a x).getD p false = if a = p ∧ a < l.length then x else l.getD p false := by
  rw [List.getD_eq_getElem?_getD, List.getD_eq_getElem?_getD, List.getElem?_set]
  by_cases h : a = p
  · subst h
    by_cases h2 : a < l.length
    · simp [h2]
    · simp [h2]
  · simp [h]
theorem le_set (l : List Bool) (a : Nat) : LeB l (l.set a true) := fun p hp => by
  rw [bool_set_get]; split
  · rfl
  · exact hp
theorem stepT_le (l : List Bool) (d : DevM) : LeB l (stepT l d) := by
  unfold stepT; split
  · exact (le_set l _).trans (le_set _ _)
  · exact LeB.refl l
theorem stepT_len (l : List Bool) (d : DevM) : (stepT l d).length = l.length := by
  unfold stepT; split
  · rw [List.length_set, List.length_set]
  · rfl
theorem roundT_le : ∀ (ds : List DevM) (l : List Bool), LeB l (roundT ds l)
  | [], l => LeB.refl l
  | d :: ds, l => (stepT_le l d).trans (roundT_le ds (stepT l d))
theorem roundT_len : ∀ (ds : List DevM) (l : List Bool), (roundT ds l).length = l.length
  | [], _ => rfl
  | d :: ds, l => (roundT_len ds (stepT l d)).trans (stepT_len l d)
theorem togK_len (ds : List DevM) (l : List Bool) : ∀ k, (togK ds k l).length = l.length
  | 0 => rfl
  | k + 1 => (roundT_len ds _).trans (togK_len ds l k)
theorem togK_le (ds : List DevM) (l : List Bool) : ∀ k, LeB l (togK ds k l)
  | 0 => LeB.refl l
  | k + 1 => (togK_le ds l k).trans (roundT_le ds _)
theorem bools_ext {a b : List Bool} (hl : a.length = b.length) (h : ∀ p, p < a.length → a.getD p false = b.getD p false) : a = b := by
  refine List.ext_getElem hl fun i h1 h2 => ?_
  have := h i h1
  rw [List.getD_eq_getElem?_getD, List.getD_eq_getElem?_getD, List.getElem?_eq_getElem h1, List.getElem?_eq_getElem h2] at this
  exact this
theorem LeB.anti {a b : List Bool} (hl : a.length = b.length) (h : LeB a b) (h' : LeB b a) : a = b :=
  bools_ext hl fun p _ => by
    cases ha : a.getD p false with
    | true => exact (h p ha).symm
    | false =>
      cases hb : b.getD p false with
      | false => rfl
      | true => rw [h' p hb] at ha; cases ha
theorem count_le : ∀ {a b : List Bool}, a.length = b.length → LeB a b → a.count true ≤ b.count true ∧ (a.count true = b.count true → a = b)
  | [], [], _, _ => ⟨Nat.le_refl _, fun _ => rfl⟩
  | x :: a, y :: b, hl, h => by
    have ih := count_le (a := a) (b := b) (by simpa using hl) (fun p hp => h (p + 1) hp)
    have h0 : x = true → y = true := h 0
    cases x <;> cases y <;> simp_all <;> omega
def ClosedT (ds : List DevM) (l : List Bool) : Prop := ∀ d ∈ ds, d.joins = true → (l.getD d.a.toNat false = true ↔ l.getD d.b.toNat false = true)
theorem stepT_fix {l : List Bool} {d : DevM} (ha : d.joins = true → d.a.toNat < l.length ∧ d.b.toNat < l.length) (h : stepT l d = l) (hj : d.joins = true) : l.getD d.a.toNat false = true ↔ l.getD d.b.toNat false = true := by
  have key : (l.getD d.a.toNat false = true ∨ l.getD d.b.toNat false = true) → l.getD d.a.toNat false = true ∧ l.getD d.b.toNat false = true := by
    intro ho
    have e : ∀ p, (stepT l d).getD p false = l.getD p false := fun p => by rw [h]
    unfold stepT at e
    rw [if_pos (by rw [hj]; rcases ho with ho | ho <;> rw [ho] <;> simp)] at e
    have h1 := e d.a.toNat
    have h2 := e d.b.toNat
    rw [bool_set_get, bool_set_get] at h1
    rw [bool_set_get] at h2
    have := ha hj
    rw [if_pos ⟨rfl, by rw [List.length_set]; exact this.2⟩] at h2
    refine ⟨?_, h2.symm⟩
    rw [← h1]
    split
    · rfl
    · rw [if_pos ⟨rfl, this.1⟩]
  exact ⟨fun h => (key (.inl h)).2, fun h => (key (.inr h)).1⟩
theorem closed_of_fix : ∀ (ds : List DevM) (l : List Bool), Ends l.length ds → roundT ds l = l → ClosedT ds l
  | [], _, _, _ => fun _ h => by cases h
  | d :: ds, l, he, h => by
    have h1 : stepT l d = l := (LeB.anti (stepT_len l d).symm (stepT_le l d) (fun p hp => by have := roundT_le ds (stepT l d) p hp; rw [show roundT ds (stepT l d) = l from h] at this; exact this)).symm
    have h2 : roundT ds l = l := by have : roundT ds (stepT l d) = l := h; rw [h1] at this; exact this
    intro d' hd' hj
    rcases List.mem_cons.1 hd' with rfl | hd'
    · exact stepT_fix (fun _ => he d' (List.mem_cons_self ..) hj) h1 hj
    · exact closed_of_fix ds l (fun x hx => he x (List.mem_cons_of_mem _ hx)) h2 d' hd' hj
theorem set_true {l : List Bool} {a : Nat} (h : l.getD a false = true) : l.set a true = l :=
  (LeB.anti (List.length_set ..).symm (le_set l a) (fun p hp => by rw [bool_set_get] at hp; split at hp; · rename_i e; rw [← e.1]; exact h
                                                                   · exact hp)).symm
theorem fix_of_closed : ∀ (ds : List DevM) (l : List Bool), ClosedT ds l → roundT ds l = l
  | [], _, _ => rfl
  | d :: ds, l, h => by
    have h1 : stepT l d = l := by
      unfold stepT; split
      · rename_i hc
        rw [Bool.and_eq_true, Bool.or_eq_true] at hc
        have := h d (List.mem_cons_self ..) hc.1
        have ha : l.getD d.a.toNat false = true := by rcases hc.2 with e | e; exact e; exact this.2 e
        rw [set_true ha, set_true (this.1 ha)]
      · rfl
    show roundT ds (stepT l d) = l
    rw [h1]
    exact fix_of_closed ds l (fun x hx => h x (List.mem_cons_of_mem _ hx))
theorem tog_closed {ds : List DevM} {l : List Bool} (he : Ends l.length ds) : ClosedT ds (togK ds l.length l) := by
  have key : ∀ k, ClosedT ds (togK ds k l) ∨ k ≤ (togK ds k l).count true := by
    intro k
    induction k with
    | zero => exact .inr (Nat.zero_le _)
    | succ k ih =>
      rcases ih with h | h
      · exact .inl (by rw [togK, fix_of_closed _ _ h]; exact h)
      · have hl := roundT_len ds (togK ds k l)
        have hc := count_le hl.symm (roundT_le ds (togK ds k l))
        by_cases e : (togK ds k l).count true = (roundT ds (togK ds k l)).count true
        · have h2 := hc.2 e
          refine .inl ?_
          rw [togK, ← h2]
          exact closed_of_fix _ _ (by rw [togK_len]; exact he) h2.symm
        · exact .inr (by rw [togK]; omega)
  rcases key l.length with h | h
  · exact h
  · have hl := togK_len ds l l.length
    have h2 : (togK ds l.length l).count true = (togK ds l.length l).length := Nat.le_antisymm List.count_le_length (by rw [hl]; exact h)
    have h3 := List.count_eq_length.1 h2
    have h4 : ∀ p, p < l.length → (togK ds l.length l).getD p false = true := fun p hp => by
      rw [List.getD_eq_getElem?_getD, List.getElem?_eq_getElem (by rw [hl]; exact hp)]
      exact (h3 _ (List.getElem_mem (by rw [hl]; exact hp))).symm
    intro d hd hj
    have := he d hd hj
    rw [h4 _ this.1, h4 _ this.2]
theorem stepT_in {T : Nat → Prop} {d : DevM} {l : List Bool} (hT : d.joins = true → (T d.a.toNat ↔ T d.b.toNat)) (h : ∀ p, l.getD p false = true → T p) : ∀ p, (stepT l d).getD p false = true → T p := by
  unfold stepT; split
  · rename_i hc
    rw [Bool.and_eq_true, Bool.or_eq_true] at hc
    have hab := hT hc.1
    have ha : T d.a.toNat := by rcases hc.2 with e | e; exact h _ e; exact hab.2 (h _ e)
    intro p hp
    rw [bool_set_get, bool_set_get] at hp
    split at hp
    · rename_i e; rw [← e.1]; exact hab.1 ha
    · split at hp
      · rename_i e; rw [← e.1]; exact ha
      · exact h p hp
  · exact h
theorem roundT_in {T : Nat → Prop} : ∀ (ds : List DevM) (l : List Bool), (∀ d ∈ ds, d.joins = true → (T d.a.toNat ↔ T d.b.toNat)) → (∀ p, l.getD p false = true → T p) → ∀ p, (roundT ds l).getD p false = true → T p
  | [], _, _, h => h
  | d :: ds, l, hT, h => roundT_in ds (stepT l d) (fun x hx => hT x (List.mem_cons_of_mem _ hx)) (stepT_in (hT d (List.mem_cons_self ..)) h)
theorem togK_in {T : Nat → Prop} {ds : List DevM} {l : List Bool} (hT : ∀ d ∈ ds, d.joins = true → (T d.a.toNat ↔ T d.b.toNat)) (h : ∀ p, l.getD p false = true → T p) : ∀ k p, (togK ds k l).getD p false = true → T p
  | 0 => h
  | k + 1 => roundT_in ds _ hT (togK_in hT h k)
/-- These points, told one by one. -/
def theseL (n : Nat) (fs : List Int) : List Bool := fs.foldl (fun l q => l.set q.toNat true) (List.replicate n false)
theorem theseF_len : ∀ (fs : List Int) (l : List Bool), (fs.foldl (fun l q => l.set q.toNat true) l).length = l.length
  | [], _ => rfl
  | _ :: fs, _ => (theseF_len fs _).trans (List.length_set ..)
theorem theseL_len (n : Nat) (fs : List Int) : (theseL n fs).length = n := (theseF_len fs _).trans List.length_replicate
theorem theseF_get : ∀ (fs : List Int) (l : List Bool) (p : Nat), p < l.length → ((fs.foldl (fun l q => l.set q.toNat true) l).getD p false = true ↔ l.getD p false = true ∨ ∃ q ∈ fs, q.toNat = p)
  | [], l, p, hp => by simp
  | q :: fs, l, p, hp => by
    show ((fs.foldl (fun l q => l.set q.toNat true) (l.set q.toNat true)).getD p false = true ↔ _)
    rw [theseF_get fs (l.set q.toNat true) p (by rw [List.length_set]; exact hp), bool_set_get]
    constructor
    · rintro (h | ⟨x, hx, e⟩)
      · split at h
        · rename_i e; exact .inr ⟨q, List.mem_cons_self .., e.1⟩
        · exact .inl h
      · exact .inr ⟨x, List.mem_cons_of_mem _ hx, e⟩
    · rintro (h | ⟨x, hx, e⟩)
      · left; split
        · rfl
        · exact h
      · rcases List.mem_cons.1 hx with rfl | hx
        · left; rw [if_pos ⟨e, by rw [e]; exact hp⟩]
        · exact .inr ⟨x, hx, e⟩
theorem theseL_get {n : Nat} {fs : List Int} {p : Nat} (hp : p < n) : (theseL n fs).getD p false = true ↔ ∃ q ∈ fs, q.toNat = p := by
  rw [theseL, theseF_get _ _ _ (by rw [List.length_replicate]; exact hp)]
  constructor
  · rintro (h | h)
    · rw [List.getD_eq_getElem?_getD, List.getElem?_replicate_of_lt hp] at h; cases h
    · exact h
  · exact .inr
def togL (n : Nat) (ds : List DevM) (l : List Bool) : List Bool := togK ds n l
/-- The document's rounds tell just what is together with these. -/
theorem tog_with {n : Nat} {ds : List DevM} {fs : List Int} (he : Ends n ds) (hf : ∀ q ∈ fs, q.toNat < n) : togL n ds (theseL n fs) = withL (grpL n ds) n fs := by
  have hl : (theseL n fs).length = n := theseL_len n fs
  have hcl : ClosedT ds (togL n ds (theseL n fs)) := by
    have := tog_closed (ds := ds) (l := theseL n fs) (by rw [hl]; exact he)
    rw [hl] at this
    exact this
  refine bools_ext ((togK_len ds _ n).trans (hl.trans (withL_len _ _ _).symm)) fun p hp => ?_
  have hp' : p < n := by have := togK_len ds (theseL n fs) n; rw [hl] at this; unfold togL at hp; omega
  rw [Bool.eq_iff_iff, withL_iff hp']
  constructor
  · intro h
    have := togK_in (T := fun p => p < n → ∃ q ∈ fs, (grpL n ds).getD q.toNat 0 = (grpL n ds).getD p 0) (ds := ds) (l := theseL n fs) ?_ ?_ n p h
    · exact this hp'
    · intro d hd hj
      have h1 := he d hd hj
      have h2 := grpL_joins he hd hj
      constructor
      · rintro h3 _
        obtain ⟨q, hq, e⟩ := h3 h1.1
        exact ⟨q, hq, e.trans h2⟩
      · rintro h3 _
        obtain ⟨q, hq, e⟩ := h3 h1.2
        exact ⟨q, hq, e.trans h2.symm⟩
    · intro p h3 h4
      obtain ⟨q, hq, e⟩ := (theseL_get h4).1 h3
      exact ⟨q, hq, by rw [e]⟩
  · rintro ⟨q, hq, e⟩
    have hqn := hf q hq
    have h1 : (togL n ds (theseL n fs)).getD q.toNat false = true := togK_le ds _ n _ ((theseL_get hqn).2 ⟨q, hq, rfl⟩)
    exact (grpL_only he (fun p => (togL n ds (theseL n fs)).getD p false = true) (fun d hd hj => hcl d hd hj) hqn hp' e).1 h1
end Go.Proofs.Ytcnoipcpifackah
