/- How faults are cleared: one step more. -/
import Derived.Test.YtpejnkngmnabfaiQ0
namespace Go.Proofs.Ytpejnkngmnabfai
open Go.RowKit Go.Shelf

def mm (x y : Nat) : Nat := if x = 0 then y else if y = 0 then x else min x y
theorem mk_mm (lv : List Nat) (cs : List CutM) (k : Nat) : mkk lv cs k = mm (lv.getD (cs.getD k (0, 0)).1 0) (lv.getD (cs.getD k (0, 0)).2 0) := rfl
theorem mm_ext {x y x' y' i j : Nat} (hx : x ≤ i) (hy : y ≤ i) (h1 : (0 < x ∧ x' = x) ∨ (x = 0 ∧ (x' = 0 ∨ x' = i + 1))) (h2 : (0 < y ∧ y' = y) ∨ (y = 0 ∧ (y' = 0 ∨ y' = i + 1))) (hj : 1 ≤ j) (hji : j ≤ i) : mm x' y' = j ↔ mm x y = j := by
  unfold mm
  split <;> split <;> (try split) <;> (try split) <;> omega
def nlv (n : Nat) (lv : List Nat) (cs : List CutM) (st : List Bool) (i : Nat) : List Nat := (List.range n).map fun p => if 0 < lv.getD p 0 then lv.getD p 0 else if nxP lv cs st i cs.length p = true then i + 1 else 0
theorem nlv_get {n : Nat} {lv : List Nat} {cs : List CutM} {st : List Bool} {i p : Nat} (hp : p < n) : (nlv n lv cs st i).getD p 0 = if 0 < lv.getD p 0 then lv.getD p 0 else if nxP lv cs st i cs.length p = true then i + 1 else 0 := by unfold nlv; rw [rmap_getD, if_pos hp]
theorem nlv_old {n : Nat} {lv : List Nat} {cs : List CutM} {st : List Bool} {i p : Nat} (hp : p < n) (h : 0 < lv.getD p 0) : (nlv n lv cs st i).getD p 0 = lv.getD p 0 := by rw [nlv_get hp, if_pos h]
theorem nlv_out {n : Nat} {lv : List Nat} {cs : List CutM} {st : List Bool} {i p : Nat} (hp : ¬ p < n) : (nlv n lv cs st i).getD p 0 = 0 := by unfold nlv; rw [rmap_getD, if_neg hp]
theorem nlv_way {n : Nat} {lv : List Nat} {cs : List CutM} {st : List Bool} {i p : Nat} (hp : p < n) : (0 < lv.getD p 0 ∧ (nlv n lv cs st i).getD p 0 = lv.getD p 0) ∨ (lv.getD p 0 = 0 ∧ ((nlv n lv cs st i).getD p 0 = 0 ∨ (nlv n lv cs st i).getD p 0 = i + 1)) := by
  by_cases h : 0 < lv.getD p 0
  · exact .inl ⟨h, nlv_old hp h⟩
  · refine .inr ⟨by omega, ?_⟩
    rw [nlv_get hp, if_neg h]
    split
    · exact .inr rfl
    · exact .inl rfl
/-- What gets dark in a step, and was not. -/
theorem nx_new {lv : List Nat} {cs : List CutM} {st : List Bool} {i j p : Nat} (h : lv.getD p 0 = 0) : nxP lv cs st i j p = true ↔ ∃ k, k < j ∧ st.getD k false = true ∧ mkk lv cs k = i ∧ ((cs.getD k (0, 0)).1 = p ∨ (cs.getD k (0, 0)).2 = p) := by
  unfold nxP
  have e : decide (0 < lv.getD p 0) = false := by simp only [decide_eq_false_iff_not]; omega
  rw [e, Bool.false_or, List.any_eq_true]
  constructor
  · rintro ⟨k, hk, h1⟩
    rw [Bool.and_eq_true, Bool.and_eq_true, Bool.or_eq_true, decide_eq_true_iff, decide_eq_true_iff, decide_eq_true_iff] at h1
    exact ⟨k, List.mem_range.1 hk, h1.1, h1.2.1, h1.2.2⟩
  · rintro ⟨k, hk, h1, h2, h3⟩
    refine ⟨k, List.mem_range.2 hk, ?_⟩
    rw [Bool.and_eq_true, Bool.and_eq_true, Bool.or_eq_true, decide_eq_true_iff, decide_eq_true_iff, decide_eq_true_iff]
    exact ⟨h1, h2, h3⟩
theorem dk_nlv (n : Nat) (lv : List Nat) (cs : List CutM) (st : List Bool) (i : Nat) : dkL n (nlv n lv cs st i) = nxL n lv cs st i cs.length := rmap_ext fun p hp => by
  rw [nlv_get hp]
  by_cases h : 0 < lv.getD p 0
  · rw [if_pos h]
    have : nxP lv cs st i cs.length p = true := by unfold nxP; rw [decide_eq_true h]; rfl
    rw [this, decide_eq_true h]
  · rw [if_neg h]
    by_cases e : nxP lv cs st i cs.length p = true
    · rw [if_pos e, e]; simp
    · rw [if_neg e]
      rw [Bool.not_eq_true] at e
      rw [e]; rfl
theorem mk_same {n f i t : Nat} {cs : List CutM} {st : List Bool} {lv : List Nat} (h : Lev n f cs st i t lv) (hp : Placed n cs) {k j : Nat} (hk : k < cs.length) (hj : 1 ≤ j) (hji : j ≤ i) : mkk (nlv n lv cs st i) cs k = j ↔ mkk lv cs k = j := by
  rw [mk_mm, mk_mm]
  exact mm_ext (h.le _) (h.le _) (nlv_way (hp k hk).1) (nlv_way (hp k hk).2.1) hj hji
theorem tr_again {n f i t : Nat} {cs : List CutM} {st : List Bool} {lv : List Nat} (h : Lev n f cs st i t lv) (hp : Placed n cs) : trL (nlv n lv cs st i) cs (i + 1) 0 = trL lv cs i cs.length := rmap_ext fun k hk => by
  congr 1
  simp only [eq_iff_iff]
  have hle := mk_le h k
  constructor
  · rintro ⟨h0, h1 | ⟨_, h1⟩⟩
    · have := (mk_same h hp hk (j := mkk (nlv n lv cs st i) cs k) h0 (by omega)).1 rfl
      refine ⟨by omega, ?_⟩
      by_cases e : mkk lv cs k < i
      · exact .inl e
      · exact .inr ⟨by omega, hk⟩
    · omega
  · rintro ⟨h0, h1⟩
    have := (mk_same h hp hk (j := mkk lv cs k) h0 hle).2 rfl
    exact ⟨by omega, .inl (by omega)⟩
theorem op_same {n f i t : Nat} {cs : List CutM} {st : List Bool} {lv : List Nat} (h : Lev n f cs st i t lv) (hp : Placed n cs) {j : Nat} (hj : 1 ≤ j) (hji : j ≤ i) : opL (nlv n lv cs st i) cs st j cs.length = opL lv cs st j cs.length := by
  unfold opL opN
  congr 1
  refine List.filter_congr fun k hk => ?_
  have := mk_same h hp (List.mem_range.1 hk) hj hji
  congr 1
  exact decide_eq_decide.2 this
theorem steps_more (lv : List Nat) (cs : List CutM) (st : List Bool) (i : Nat) : stepsL lv cs st (i + 1) = stepsL lv cs st i ++ [opL lv cs st (i + 1) cs.length] := by
  unfold stepsL
  rw [List.range_succ, List.map_append]; rfl
theorem steps_same {n f i t : Nat} {cs : List CutM} {st : List Bool} {lv : List Nat} (h : Lev n f cs st i t lv) (hp : Placed n cs) : stepsL (nlv n lv cs st i) cs st i = stepsL lv cs st i := rmap_ext fun t' ht => op_same h hp (by omega) (by omega)
theorem countP_lt {α : Type} {P Q : α → Bool} : ∀ {l : List α}, (∀ x ∈ l, P x = true → Q x = true) → (∃ x ∈ l, P x = false ∧ Q x = true) → l.countP P < l.countP Q
  | [], _, h => by obtain ⟨x, hx, _⟩ := h; cases hx
  | y :: l, h1, h2 => by
    have hle : l.countP P ≤ l.countP Q := List.countP_mono_left fun x hx => h1 x (List.mem_cons_of_mem _ hx)
    rw [List.countP_cons, List.countP_cons]
    by_cases hy : P y = true
    · have := h1 y (by simp) hy
      rw [hy, this]
      obtain ⟨x, hx, hx2⟩ := h2
      rcases List.mem_cons.1 hx with rfl | hx
      · rw [hx2.1] at hy; cases hy
      · have := countP_lt (fun x hx => h1 x (List.mem_cons_of_mem _ hx)) ⟨x, hx, hx2⟩
        simp only [if_true]
        omega
    · rw [Bool.not_eq_true] at hy
      rw [hy]
      by_cases hq : Q y = true
      · rw [hq]; simp; omega
      · obtain ⟨x, hx, hx2⟩ := h2
        rcases List.mem_cons.1 hx with rfl | hx
        · exact absurd hx2.2 hq
        · have := countP_lt (fun x hx => h1 x (List.mem_cons_of_mem _ hx)) ⟨x, hx, hx2⟩
          rw [Bool.not_eq_true] at hq
          rw [hq]
          simp
          omega
theorem Lev.next {n f i t : Nat} {cs : List CutM} {st : List Bool} {lv : List Nat} (h : Lev n f cs st i t lv) (hti : t + 1 = i) (hp : Placed n cs) (hne : nxL n lv cs st i cs.length ≠ dkL n lv) : Lev n f cs st (i + 1) i (nlv n lv cs st i) := by
  have hpos := h.pos
  obtain ⟨p0, hp0, hl0, hn0⟩ : ∃ p, p < n ∧ lv.getD p 0 = 0 ∧ nxP lv cs st i cs.length p = true := by
    refine Classical.byContradiction fun hno => hne (rmap_ext fun p hpn => ?_)
    by_cases e : 0 < lv.getD p 0
    · unfold nxP; rw [decide_eq_true e]; rfl
    · have : nxP lv cs st i cs.length p = false := by
        rw [← Bool.not_eq_true]
        exact fun e2 => hno ⟨p, hpn, by omega, e2⟩
      rw [this]
      simp only [decide_eq_false e]
  have hnew : (nlv n lv cs st i).getD p0 0 = i + 1 := by rw [nlv_get hp0, if_neg (by omega), if_pos hn0]
  refine ⟨by simp [nlv], by omega, fun p hpn => ?_, fun p => ?_, ⟨p0, hp0, hnew⟩, fun k hk hs j h0 hj => ?_, fun p hpn h2 => ?_, ?_⟩
  · have h1 := h.one p hpn
    rcases nlv_way (lv := lv) (cs := cs) (st := st) (i := i) hpn with ⟨_, e⟩ | ⟨e0, e⟩
    · rw [e]; exact h1
    · constructor
      · intro e1; omega
      · intro e1; have := h1.2 e1; omega
  · by_cases hpn : p < n
    · have h1 := h.le p
      rcases nlv_way (lv := lv) (cs := cs) (st := st) (i := i) hpn with ⟨_, e⟩ | ⟨_, e⟩ <;> omega
    · rw [nlv_out hpn]; omega
  · obtain ⟨ha, hb, _⟩ := hp k hk
    have wa := nlv_way (lv := lv) (cs := cs) (st := st) (i := i) ha
    have wb := nlv_way (lv := lv) (cs := cs) (st := st) (i := i) hb
    have la := h.le (cs.getD k (0, 0)).1
    have lb := h.le (cs.getD k (0, 0)).2
    refine ⟨fun e => ?_, fun e => ?_⟩
    · have ea : lv.getD (cs.getD k (0, 0)).1 0 = j := by rcases wa with ⟨_, e2⟩ | ⟨_, e2⟩ <;> omega
      by_cases hlt : j ≤ t
      · have := (h.on k hk hs j h0 hlt).1 ea
        rw [nlv_old hb this.1]; exact this
      · have hji : j = i := by omega
        by_cases hz : 0 < lv.getD (cs.getD k (0, 0)).2 0
        · rw [nlv_old hb hz]; omega
        · have hm : mkk lv cs k = i := by rw [mk_mm]; unfold mm; rw [if_neg (by omega), if_pos (by omega)]; omega
          have hx : nxP lv cs st i cs.length (cs.getD k (0, 0)).2 = true := (nx_new (by omega)).2 ⟨k, hk, hs, hm, .inr rfl⟩
          rw [nlv_get hb, if_neg hz, if_pos hx]; omega
    · have eb : lv.getD (cs.getD k (0, 0)).2 0 = j := by rcases wb with ⟨_, e2⟩ | ⟨_, e2⟩ <;> omega
      by_cases hlt : j ≤ t
      · have := (h.on k hk hs j h0 hlt).2 eb
        rw [nlv_old ha this.1]; exact this
      · have hji : j = i := by omega
        by_cases hz : 0 < lv.getD (cs.getD k (0, 0)).1 0
        · rw [nlv_old ha hz]; omega
        · have hm : mkk lv cs k = i := by rw [mk_mm]; unfold mm; rw [if_pos (by omega)]; omega
          have hx : nxP lv cs st i cs.length (cs.getD k (0, 0)).1 = true := (nx_new (by omega)).2 ⟨k, hk, hs, hm, .inl rfl⟩
          rw [nlv_get ha, if_neg hz, if_pos hx]; omega
  · rcases nlv_way (lv := lv) (cs := cs) (st := st) (i := i) hpn with ⟨e0, e⟩ | ⟨e0, e⟩
    · obtain ⟨k, hk, hs, hc⟩ := h.fro p hpn (by omega)
      refine ⟨k, hk, hs, ?_⟩
      rcases hc with ⟨c1, c2⟩ | ⟨c1, c2⟩
      · exact .inl ⟨c1, by rw [e, nlv_old (hp k hk).2.1 (by omega)]; exact c2⟩
      · exact .inr ⟨c1, by rw [e, nlv_old (hp k hk).1 (by omega)]; exact c2⟩
    · have e1 : (nlv n lv cs st i).getD p 0 = i + 1 := by omega
      have hx : nxP lv cs st i cs.length p = true := by
        rw [nlv_get hpn, if_neg (by omega)] at e1
        split at e1
        · assumption
        · omega
      obtain ⟨k, hk, hs, hm, hc⟩ := (nx_new e0).1 hx
      refine ⟨k, hk, hs, ?_⟩
      rw [mk_mm] at hm
      unfold mm at hm
      rcases hc with c | c
      · rw [c, e0, if_pos rfl] at hm
        exact .inl ⟨c, by rw [e1, nlv_old (hp k hk).2.1 (by omega), hm]⟩
      · rw [c, e0] at hm
        have hm2 : lv.getD (cs.getD k (0, 0)).1 0 = i := by
          split at hm
          · omega
          · simpa using hm
        exact .inr ⟨c, by rw [e1, nlv_old (hp k hk).1 (by omega), hm2]⟩
  · have h1 := h.cnt
    have h2 : (List.range n).countP (fun p => decide (0 < lv.getD p 0)) < (List.range n).countP (fun p => decide (0 < (nlv n lv cs st i).getD p 0)) := by
      refine countP_lt (fun p hpm hx => ?_) ⟨p0, List.mem_range.2 hp0, by simp only [decide_eq_false_iff_not]; omega, by rw [hnew]; simp⟩
      rw [decide_eq_true_iff] at hx ⊢
      rw [nlv_old (List.mem_range.1 hpm) hx]; exact hx
    omega
theorem Lev.done {n f i t : Nat} {cs : List CutM} {st : List Bool} {lv : List Nat} (h : Lev n f cs st i t lv) (hti : t + 1 = i) (hp : Placed n cs) (he : nxL n lv cs st i cs.length = dkL n lv) : Lev n f cs st i i lv := by
  have hnx : ∀ p, p < n → nxP lv cs st i cs.length p = true → 0 < lv.getD p 0 := fun p hpn hx => by
    have h1 : (nxL n lv cs st i cs.length).getD p false = (dkL n lv).getD p false := by rw [he]
    unfold nxL dkL at h1
    rw [rmap_getD, rmap_getD, if_pos hpn, if_pos hpn, hx] at h1
    exact of_decide_eq_true h1.symm
  refine ⟨h.len, h.pos, h.one, h.le, h.has, fun k hk hs j h0 hj => ?_, h.fro, h.cnt⟩
  obtain ⟨ha, hb, _⟩ := hp k hk
  have la := h.le (cs.getD k (0, 0)).1
  have lb := h.le (cs.getD k (0, 0)).2
  by_cases hlt : j ≤ t
  · exact h.on k hk hs j h0 hlt
  · have hji : j = i := by omega
    refine ⟨fun e => ?_, fun e => ?_⟩
    · refine ⟨?_, by omega⟩
      by_cases hz : 0 < lv.getD (cs.getD k (0, 0)).2 0
      · exact hz
      · have hm : mkk lv cs k = i := by rw [mk_mm]; unfold mm; rw [if_neg (by omega), if_pos (by omega)]; omega
        exact hnx _ hb ((nx_new (by omega)).2 ⟨k, hk, hs, hm, .inr rfl⟩)
    · refine ⟨?_, by omega⟩
      by_cases hz : 0 < lv.getD (cs.getD k (0, 0)).1 0
      · exact hz
      · have hm : mkk lv cs k = i := by rw [mk_mm]; unfold mm; rw [if_pos (by omega)]; omega
        exact hnx _ ha ((nx_new (by omega)).2 ⟨k, hk, hs, hm, .inl rfl⟩)
def lv0 (n f : Nat) : List Nat := (List.range n).map fun p => if p = f then 1 else 0
theorem lv0_get {n f p : Nat} (hp : p < n) : (lv0 n f).getD p 0 = if p = f then 1 else 0 := by unfold lv0; rw [rmap_getD, if_pos hp]
theorem Lev.start {n f : Nat} (hf : f < n) (cs : List CutM) (st : List Bool) : Lev n f cs st 1 0 (lv0 n f) := by
  refine ⟨by simp [lv0], Nat.le_refl _, fun p hp => ?_, fun p => ?_, ⟨f, hf, by rw [lv0_get hf, if_pos rfl]⟩, fun _ _ _ j h0 hj => by omega, fun p hp h2 => ?_, ?_⟩
  · rw [lv0_get hp]; split <;> simp_all
  · by_cases hp : p < n
    · rw [lv0_get hp]; split <;> omega
    · unfold lv0; rw [rmap_getD, if_neg hp]; omega
  · rw [lv0_get hp] at h2; split at h2 <;> omega
  · exact List.countP_pos_iff.2 ⟨f, List.mem_range.2 hf, by rw [lv0_get hf, if_pos rfl]; rfl⟩
theorem dk_start (n f : Nat) : dkL n (lv0 n f) = (List.replicate n false).set f true := by
  rw [show List.replicate n false = (List.range n).map fun _ => false by simp [List.map_const'], rmap_set]
  refine rmap_ext fun p hp => ?_
  rw [lv0_get hp]
  split <;> rfl
theorem tr_start (lv : List Nat) (cs : List CutM) : trL lv cs 1 0 = List.replicate cs.length false := by
  rw [show List.replicate cs.length false = (List.range cs.length).map fun _ => false by simp [List.map_const']]
  refine rmap_ext fun k _ => ?_
  simp only [decide_eq_false_iff_not]
  rintro ⟨h0, h1 | ⟨_, h1⟩⟩ <;> omega
end Go.Proofs.Ytpejnkngmnabfai
