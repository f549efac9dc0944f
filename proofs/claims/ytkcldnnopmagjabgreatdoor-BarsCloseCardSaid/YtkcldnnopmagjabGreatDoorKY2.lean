/- Plain facts: a line splits its island just if the search without it does not reach its other end; so the document's bridges are the program's. -/
import Derived.Test.YtkcldnnopmagjabGreatDoorKBp0
import Derived.Test.YtkcldnnopmagjabGreatDoorKBrf
namespace Go.Proofs.YtkcldnnopmagjabGreatDoor.Bar

theorem cntR_mono (R : Nat → Nat) (a : Nat) : ∀ m, cntR R a ≤ cntR R (a + m)
  | 0 => Nat.le_refl _
  | m + 1 => by
    have := cntR_mono R a m
    rw [← Nat.add_assoc, cntR]
    split <;> omega
theorem cntR_lt {R : Nat → Nat} {a b : Nat} (ha : R a = a) (h : a < b) : cntR R a < cntR R b := by
  have h1 := cntR_mono R (a + 1) (b - (a + 1))
  rw [show a + 1 + (b - (a + 1)) = b by omega, cntR, if_pos ha] at h1
  omega
/-- Two buses bear one number just if they are joined. -/
theorem groups_iff {n : Nat} {links : List LinkM} (he : Ends n links) {a b : Nat} (ha : a < n) (hb : b < n) : (groupsL n links).getD a 0 = (groupsL n links).getD b 0 ↔ Conn links (a : Int) (b : Int) := by
  obtain ⟨R, hR⟩ := roots_exist links
  have h1 := (groups_spec hR he n (Nat.le_refl _)).2
  have ea : (groupsL n links).getD a 0 = (cntR R (R a) : Int) := by
    have := h1 a ha
    rwa [if_pos (Nat.lt_of_le_of_lt (hR a).1 ha)] at this
  have eb : (groupsL n links).getD b 0 = (cntR R (R b) : Int) := by
    have := h1 b hb
    rwa [if_pos (Nat.lt_of_le_of_lt (hR b).1 hb)] at this
  rw [ea, eb, root_iff hR]
  constructor
  · intro h
    rcases Nat.lt_trichotomy (R a) (R b) with hl | hl | hl
    · have := cntR_lt (root_root hR a) hl
      omega
    · exact hl
    · have := cntR_lt (root_root hR b) hl
      omega
  · intro h
    rw [h]
/-- The search misses a bus just if its number is another one. -/
theorem far_groups {n : Nat} {links : List LinkM} (he : Ends n links) {a b : Nat} (ha : a < n) (hb : b < n) : (farL n links a).getD b 0 = -1 ↔ (groupsL n links).getD a 0 ≠ (groupsL n links).getD b 0 := by
  have h1 := (far_spec he ha).1 b hb
  rw [Ne, groups_iff he ha hb, ← h1]
  constructor
  · intro h h2; exact h2 h
  · intro h
    exact Classical.byContradiction h
theorem linksN_less {ls : List LineM} {out : List Bool} {k : Nat} (hk : k < out.length) {t : LineM} (ht : ls[k]? = some t) (ho : out.getD k false = false) : ∀ m, ∃ rest, linksN ls out (k + 1 + m) = linksN ls out k ++ [⟨false, (k : Int), t.frm, t.to⟩] ++ rest ∧ linksN ls (out.set k true) (k + 1 + m) = linksN ls out k ++ rest
  | 0 => by
    have hb : ∀ j, j ≤ k → linksN ls (out.set k true) j = linksN ls out j := by
      intro j
      induction j with
      | zero => intro _; rfl
      | succ j ih =>
        intro hj
        rw [linksN, linksN, ih (by omega), List.getD_eq_getElem?_getD, List.getElem?_set_ne (by omega), ← List.getD_eq_getElem?_getD]
    refine ⟨[], ?_, ?_⟩
    · show linksN ls out (k + 1) = _
      rw [linksN, ht, List.append_nil]
      simp only [ho, Bool.false_eq_true, if_false]
    · show linksN ls (out.set k true) (k + 1) = _
      rw [linksN, ht, List.append_nil, hb k (Nat.le_refl _)]
      have : (out.set k true).getD k false = true := by
        rw [List.getD_eq_getElem?_getD, List.getElem?_set_self hk]; rfl
      simp only [this, if_true]
  | m + 1 => by
    obtain ⟨r, h1, h2⟩ := linksN_less hk ht ho m
    have hg : (out.set k true).getD (k + 1 + m) false = out.getD (k + 1 + m) false := by
      rw [List.getD_eq_getElem?_getD, List.getElem?_set_ne (by omega), ← List.getD_eq_getElem?_getD]
    rw [← Nat.add_assoc, linksN, linksN, hg]
    cases ls[k + 1 + m]? with
    | none => exact ⟨r, h1, h2⟩
    | some x =>
      simp only
      split
      · exact ⟨r, h1, h2⟩
      · exact ⟨r ++ [_], by rw [h1, List.append_assoc], by rw [h2, List.append_assoc]⟩
theorem erase_mid {α : Type} (A R : List α) (x : α) : (A ++ [x] ++ R).eraseIdx A.length = A ++ R := by
  induction A with
  | nil => rfl
  | cons a r ih => simp only [List.cons_append, List.length_cons, List.eraseIdx_cons_succ]; rw [ih]
theorem get_mid {α : Type} (A R : List α) (x : α) : (A ++ [x] ++ R)[A.length]? = some x := by
  rw [List.append_assoc, List.getElem?_append_right (Nat.le_refl _), Nat.sub_self]
  rfl
/-- The k-th line in service: where its link stands, and what is left without it. -/
theorem service_less {N : NetM} {out : List Bool} (hol : out.length = N.lines.length) {k : Nat} {t : LineM} (ht : N.lines[k]? = some t) (ho : out.getD k false = false) :
    (serviceL N out)[(linksN N.lines out k).length]? = some ⟨false, (k : Int), t.frm, t.to⟩ ∧ (serviceL N out).eraseIdx (linksN N.lines out k).length = serviceL N (out.set k true) := by
  have hk : k < N.lines.length := (List.getElem?_eq_some_iff.1 ht).1
  obtain ⟨r, h1, h2⟩ := linksN_less (ls := N.lines) (by rw [hol]; exact hk) ht ho (N.lines.length - (k + 1))
  rw [show k + 1 + (N.lines.length - (k + 1)) = N.lines.length by omega] at h1 h2
  rw [serviceL, serviceL, h1, h2, List.append_assoc]
  exact ⟨get_mid _ _ _, by rw [erase_mid, List.append_assoc]⟩
/-- The program's bridges, link by link. -/
def bridgesS (n : Nat) (links : List LinkM) : Nat → List Int
  | 0 => []
  | i + 1 => match links[i]? with
    | some k => if k.tie = false ∧ (farL n (links.eraseIdx i) k.p).getD k.q.toNat 0 = -1 then bridgesS n links i ++ [k.no] else bridgesS n links i
    | none => bridgesS n links i
def bridgesL (n : Nat) (links : List LinkM) : List Int := bridgesS n links links.length
theorem bridgesS_len (n : Nat) (links : List LinkM) : ∀ k, (bridgesS n links k).length ≤ k
  | 0 => Nat.le_refl _
  | k + 1 => by
    have := bridgesS_len n links k
    rw [bridgesS]
    split
    · split
      · rw [List.length_append]; simp; omega
      · omega
    · omega
theorem linksT_tie (ts : List TieM) : ∀ k, ∀ l ∈ linksT ts k, l.tie = true
  | 0, _, h => by cases h
  | k + 1, l, h => by
    rw [linksT] at h
    split at h
    · split at h
      · rcases List.mem_append.1 h with h | h
        · exact linksT_tie ts k l h
        · rw [List.mem_singleton.1 h]
      · exact linksT_tie ts k l h
    · exact linksT_tie ts k l h
theorem bridges_ties {n : Nat} {A B : List LinkM} (hB : ∀ l ∈ B, l.tie = true) : ∀ m, bridgesS n (A ++ B) (A.length + m) = bridgesS n (A ++ B) A.length
  | 0 => rfl
  | m + 1 => by
    have ih := bridges_ties (n := n) (A := A) hB m
    rw [← Nat.add_assoc, bridgesS]
    cases h : (A ++ B)[A.length + m]? with
    | none => exact ih
    | some k =>
      rw [List.getElem?_append_right (by omega)] at h
      have := hB k (List.mem_of_getElem? h)
      simp only [this, Bool.true_eq_false, false_and, if_false]
      exact ih
end Go.Proofs.YtkcldnnopmagjabGreatDoor.Bar

/- Plain facts: to close a tie makes one node of two, or changes nothing. -/
namespace Go.Proofs.YtkcldnnopmagjabGreatDoor.Bar

/-- How many groups there are. -/
def groupsN (n : Nat) (links : List LinkM) : Nat := (groupsS n links n).2
/-- The groups' numbers come one behind the other. -/
theorem groups_rise {n : Nat} {links : List LinkM} (he : Ends n links) : ∃ c : Nat → Nat, c 0 = 0 ∧ c n = groupsN n links ∧ (∀ i, c i ≤ i) ∧ ∀ i, i < n → 0 ≤ (groupsL n links).getD i 0 ∧ (groupsL n links).getD i 0 ≤ (c i : Int) ∧ c (i + 1) = if (groupsL n links).getD i 0 = (c i : Int) then c i + 1 else c i := by
  obtain ⟨R, hR⟩ := roots_exist links
  have hs := groups_spec hR he n (Nat.le_refl _)
  refine ⟨cntR R, rfl, hs.1.symm, fun i => ?_, fun i hi => ?_⟩
  · induction i with
    | zero => exact Nat.le_refl _
    | succ i ih => rw [cntR]; split <;> omega
  · have hg : (groupsL n links).getD i 0 = (cntR R (R i) : Int) := by
      have := hs.2 i hi
      rwa [if_pos (Nat.lt_of_le_of_lt (hR i).1 hi)] at this
    have hle := cntR_mono R (R i) (i - R i)
    rw [show R i + (i - R i) = i by have := (hR i).1; omega] at hle
    refine ⟨by omega, by omega, ?_⟩
    rw [cntR, hg]
    by_cases e : R i = i
    · rw [if_pos e, e, if_pos rfl]
    · have hlt : R i < i := by have := (hR i).1; omega
      have := cntR_lt (root_root hR i) hlt
      rw [if_neg e, if_neg (by omega)]
theorem groupsN_pos {n : Nat} {links : List LinkM} (he : Ends n links) (hn : 0 < n) : 0 < groupsN n links := by
  obtain ⟨R, hR⟩ := roots_exist links
  have h1 : R 0 = 0 := by have := (hR 0).1; omega
  have := cntR_lt (R := R) h1 hn
  rw [groupsN, (groups_spec hR he n (Nat.le_refl _)).1]
  omega
theorem Conn.mono {A B : List LinkM} (h : ∀ u v, Adj A u v → Adj B u v) {a b : Int} (hc : Conn A a b) : Conn B a b := fun S h1 h2 => hc S h1 (fun x y hx hy => h2 x y hx (h x y hy))
/-- One link more: who is joined then. -/
theorem conn_more {A B : List LinkM} {x y : Int} (h : ∀ u v, Adj B u v ↔ Adj A u v ∨ (u = x ∧ v = y) ∨ (u = y ∧ v = x)) (a b : Int) : Conn B a b ↔ Conn A a b ∨ (Conn A a x ∧ Conn A y b) ∨ (Conn A a y ∧ Conn A x b) := by
  have hm : ∀ {a b}, Conn A a b → Conn B a b := fun hc => hc.mono (fun u v ha => (h u v).2 (.inl ha))
  constructor
  · intro hc
    refine hc (fun v => Conn A a v ∨ (Conn A a x ∧ Conn A y v) ∨ (Conn A a y ∧ Conn A x v)) (.inl .refl) (fun u v hu hv => ?_)
    rcases (h u v).1 hv with ha | ⟨rfl, rfl⟩ | ⟨rfl, rfl⟩
    · rcases hu with hu | ⟨h1, h2⟩ | ⟨h1, h2⟩
      · exact .inl (hu.step ha)
      · exact .inr (.inl ⟨h1, h2.step ha⟩)
      · exact .inr (.inr ⟨h1, h2.step ha⟩)
    · rcases hu with hu | ⟨h1, _⟩ | ⟨h1, _⟩
      · exact .inr (.inl ⟨hu, .refl⟩)
      · exact .inr (.inl ⟨h1, .refl⟩)
      · exact .inl h1
    · rcases hu with hu | ⟨h1, _⟩ | ⟨h1, _⟩
      · exact .inr (.inr ⟨hu, .refl⟩)
      · exact .inl h1
      · exact .inr (.inr ⟨h1, .refl⟩)
  · have hxy : Conn B x y := Conn.refl.step ((h x y).2 (.inr (.inl ⟨rfl, rfl⟩)))
    rintro (hc | ⟨h1, h2⟩ | ⟨h1, h2⟩)
    · exact hm hc
    · exact (hm h1).trans (hxy.trans (hm h2))
    · exact (hm h1).trans (hxy.symm.trans (hm h2))
theorem cnt_less {R1 R2 : Nat → Nat} {m : Nat} (hm : R1 m = m) (h : ∀ k, R2 k = k ↔ R1 k = k ∧ k ≠ m) : ∀ n, cntR R2 n + (if m < n then 1 else 0) = cntR R1 n
  | 0 => by rw [if_neg (by omega)]; rfl
  | n + 1 => by
    have ih := cnt_less hm h n
    rw [cntR, cntR]
    by_cases e : m = n
    · subst e
      rw [if_neg (fun h2 => ((h m).1 h2).2 rfl), if_pos hm, if_pos (by omega)]
      rw [if_neg (by omega)] at ih
      omega
    · by_cases h1 : R1 n = n
      · rw [if_pos ((h n).2 ⟨h1, fun e2 => e e2.symm⟩), if_pos h1]
        by_cases h2 : m < n
        · rw [if_pos h2] at ih; rw [if_pos (by omega)]; omega
        · rw [if_neg h2] at ih; rw [if_neg (by omega)]; omega
      · rw [if_neg (fun h2 => h1 ((h n).1 h2).1), if_neg h1]
        by_cases h2 : m < n
        · rw [if_pos h2] at ih; rw [if_pos (by omega)]; omega
        · rw [if_neg h2] at ih; rw [if_neg (by omega)]; omega
/-- One link more between two buses: the number of groups falls by one, or stays. -/
theorem groups_more {n : Nat} {A B : List LinkM} (hA : Ends n A) (hB : Ends n B) {x y : Nat} (hx : x < n) (hy : y < n) (h : ∀ u v, Adj B u v ↔ Adj A u v ∨ (u = (x : Int) ∧ v = (y : Int)) ∨ (u = (y : Int) ∧ v = (x : Int))) :
    (groupsL n B).getD x 0 = (groupsL n B).getD y 0 ∧ groupsN n B + (if (groupsL n A).getD x 0 = (groupsL n A).getD y 0 then 0 else 1) = groupsN n A := by
  have hc := conn_more h
  have hxy : Conn B (x : Int) (y : Int) := (hc _ _).2 (.inr (.inl ⟨.refl, .refl⟩))
  refine ⟨(groups_iff hB hx hy).2 hxy, ?_⟩
  obtain ⟨R1, h1⟩ := roots_exist A
  obtain ⟨R2, h2⟩ := roots_exist B
  rw [groupsN, groupsN, (groups_spec h1 hA n (Nat.le_refl _)).1, (groups_spec h2 hB n (Nat.le_refl _)).1]
  by_cases hj : Conn A (x : Int) (y : Int)
  · rw [if_pos ((groups_iff hA hx hy).2 hj), Nat.add_zero]
    have hsame : ∀ k, R2 k = R1 k := fun k => by
      refine Nat.le_antisymm ?_ ?_
      · exact (h2 k).2.2 _ ((hc _ _).2 (.inl (h1 k).2.1))
      · refine (h1 k).2.2 _ ?_
        rcases (hc _ _).1 (h2 k).2.1 with a | ⟨a, b⟩ | ⟨a, b⟩
        · exact a
        · exact a.trans (hj.trans b)
        · exact a.trans (hj.symm.trans b)
    have : ∀ m, cntR R2 m = cntR R1 m := by
      intro m
      induction m with
      | zero => rfl
      | succ m ih => rw [cntR, cntR, ih, hsame]
    exact this n
  · rw [if_neg (fun e => hj ((groups_iff hA hx hy).1 e))]
    have hne : R1 x ≠ R1 y := fun e => hj ((root_iff h1 x y).2 e)
    obtain ⟨m, hm⟩ : ∃ m, m = if R1 x < R1 y then R1 y else R1 x := ⟨_, rfl⟩
    have hmr : R1 m = m := by rw [hm]; split <;> exact root_root h1 _
    have hmn : m < n := by
      have a1 := (h1 x).1
      have a2 := (h1 y).1
      rw [hm]; split <;> omega
    have key : ∀ k, R2 k = k ↔ R1 k = k ∧ k ≠ m := fun k => by
      constructor
      · intro hk
        refine ⟨?_, fun e => ?_⟩
        · refine Nat.le_antisymm (h1 k).1 ?_
          have := (h2 k).2.2 (R1 k) ((hc _ _).2 (.inl (h1 k).2.1))
          omega
        · subst e
          by_cases hl : R1 x < R1 y
          · rw [if_pos hl] at hm
            have := (h2 k).2.2 (R1 x) ((hc _ _).2 (.inr (.inl ⟨(h1 x).2.1, by rw [hm]; exact (h1 y).2.1.symm⟩)))
            omega
          · rw [if_neg hl] at hm
            have := (h2 k).2.2 (R1 y) ((hc _ _).2 (.inr (.inr ⟨(h1 y).2.1, by rw [hm]; exact (h1 x).2.1.symm⟩)))
            omega
      · rintro ⟨hk, hkm⟩
        refine Nat.le_antisymm (h2 k).1 ?_
        rcases (hc _ _).1 (h2 k).2.1 with a | ⟨a, b⟩ | ⟨a, b⟩
        · have := (h1 k).2.2 _ a
          omega
        · have e1 := (root_iff h1 _ _).1 b
          have e2 := (h1 x).2.2 _ a
          rw [hk] at e1
          by_cases hl : R1 x < R1 y
          · rw [if_pos hl] at hm; omega
          · rw [if_neg hl] at hm; omega
        · have e1 := (root_iff h1 _ _).1 b
          have e2 := (h1 y).2.2 _ a
          rw [hk] at e1
          by_cases hl : R1 x < R1 y
          · rw [if_pos hl] at hm; omega
          · rw [if_neg hl] at hm; omega
    have := cnt_less hmr key n
    rw [if_pos hmn] at this
    exact this
theorem linksT_mem (ts : List TieM) : ∀ (k : Nat) (l : LinkM), l ∈ linksT ts k ↔ ∃ (i : Nat) (t : TieM), i < k ∧ ts[i]? = some t ∧ t.closed = true ∧ l = ⟨true, (i : Int), t.frm, t.to⟩
  | 0, l => by
    constructor
    · intro h; cases h
    · rintro ⟨i, t, h, _⟩; omega
  | k + 1, l => by
    have ih := linksT_mem ts k l
    rw [linksT]
    constructor
    · intro h
      split at h
      · next t ht =>
        split at h
        · next hc =>
          rcases List.mem_append.1 h with h | h
          · obtain ⟨i, t', h1, h2⟩ := ih.1 h
            exact ⟨i, t', by omega, h2⟩
          · exact ⟨k, t, by omega, ht, hc, List.mem_singleton.1 h⟩
        · obtain ⟨i, t', h1, h2⟩ := ih.1 h
          exact ⟨i, t', by omega, h2⟩
      · obtain ⟨i, t', h1, h2⟩ := ih.1 h
        exact ⟨i, t', by omega, h2⟩
    · rintro ⟨i, t, h1, h2, h3, h4⟩
      by_cases e : i = k
      · subst e
        rw [h2]
        show l ∈ if t.closed then linksT ts i ++ [⟨true, (i : Int), t.frm, t.to⟩] else linksT ts i
        rw [if_pos h3, h4]
        exact List.mem_append_right _ (by simp)
      · have h5 := ih.2 ⟨i, t, by omega, h2, h3, h4⟩
        split
        · split
          · exact List.mem_append_left _ h5
          · exact h5
        · exact h5
/-- The k-th tie closed: which links there are then. -/
theorem adj_close {ts : List TieM} {k : Nat} {t : TieM} (ht : ts[k]? = some t) (u v : Int) : Adj (linksT (ts.set k { t with closed := true }) (ts.set k { t with closed := true }).length) u v ↔ Adj (linksT ts ts.length) u v ∨ (u = t.frm ∧ v = t.to) ∨ (u = t.to ∧ v = t.frm) := by
  have hk : k < ts.length := (List.getElem?_eq_some_iff.1 ht).1
  constructor
  · rintro ⟨l, hl, hn⟩
    obtain ⟨i, t', h1, h2, h3, rfl⟩ := (linksT_mem _ _ _).1 hl
    by_cases e : k = i
    · subst e
      rw [List.getElem?_set_self hk] at h2
      cases h2
      rcases nextOf_iff.1 hn with ⟨a, b⟩ | ⟨a, b⟩
      · exact .inr (.inl ⟨a.symm, b.symm⟩)
      · exact .inr (.inr ⟨b.symm, a.symm⟩)
    · rw [List.getElem?_set_ne e] at h2
      rw [List.length_set] at h1
      exact .inl ⟨_, (linksT_mem _ _ _).2 ⟨i, t', h1, h2, h3, rfl⟩, hn⟩
  · have hself : (⟨true, (k : Int), t.frm, t.to⟩ : LinkM) ∈ linksT (ts.set k { t with closed := true }) (ts.set k { t with closed := true }).length := (linksT_mem _ _ _).2 ⟨k, { t with closed := true }, by rw [List.length_set]; exact hk, List.getElem?_set_self hk, rfl, rfl⟩
    rintro (⟨l, hl, hn⟩ | ⟨rfl, rfl⟩ | ⟨rfl, rfl⟩)
    · obtain ⟨i, t', h1, h2, h3, rfl⟩ := (linksT_mem _ _ _).1 hl
      by_cases e : k = i
      · subst e
        rw [ht] at h2
        cases h2
        exact ⟨_, hself, hn⟩
      · exact ⟨_, (linksT_mem _ _ _).2 ⟨i, t', by rw [List.length_set]; exact h1, by rw [List.getElem?_set_ne e]; exact h2, h3, rfl⟩, hn⟩
    · exact ⟨_, hself, nextOf_iff.2 (.inl ⟨rfl, rfl⟩)⟩
    · exact ⟨_, hself, nextOf_iff.2 (.inr ⟨rfl, rfl⟩)⟩
end Go.Proofs.YtkcldnnopmagjabGreatDoor.Bar

/- The keeping law's helpers: how many numbers there are, which lines are out, a tie that is closed. -/
namespace Go.Proofs.YtkcldnnopmagjabGreatDoor.Bar
open Go.RowKit Go.Shelf Doc

set_option maxRecDepth 100000 in
set_option maxHeartbeats 2000000 in
theorem count_any (l : List Int) (c : Nat → Nat) (hc0 : c 0 = 0) (hci : ∀ i, c i ≤ i) (hs : ∀ i, i < l.length → 0 ≤ l.getD i 0 ∧ l.getD i 0 ≤ (c i : Int) ∧ c (i + 1) = if l.getD i 0 = (c i : Int) then c i + 1 else c i) (hl : l.length ≤ 1000) (va : Value) (w : World) (ha : RowAt w va l.length 1 (ints l)) :
    Calls Tryz.prog 25 #[va] w fun e w' => e = .returned (.int .i64 (c l.length : Int)) ∧ w' = w := by
  have HA := hide' ha
  obtain ⟨aa, ca, rfl⟩ := rowAt_slice ha
  have HS := hide' hs
  have HCI := hide' hci
  have HC0 : Hid (Value.int .i64 0 = .int .i64 (c 0 : Int)) := by show _ = _; rw [hc0]; rfl
  clear ha hs hci hc0
  go_enter Tryz.func25, Tryz.ntmps25
  go_wp2_with fail
  go_loop [3, 4] (fun n i => ∃ (k : Nat), i = .int .i64 k ∧ n = .int .i64 (c k : Int) ∧ k ≤ l.length) (fun _ i => l.length - (intOf i).toNat)
  case atStart => exact ⟨0, rfl, HC0.out, Nat.zero_le _⟩
  case round =>
    obtain ⟨k, rfl, rfl, hk⟩ := hrel
    by_cases hlt : k < l.length
    · obtain ⟨b1, o1, c1, e1, h1⟩ := ints_cell HA.out k hlt
      cases e1
      have h2 := HS.out k hlt
      have h3 := HCI.out k
      obtain ⟨x, hx⟩ : ∃ x, x = l.getD k 0 := ⟨_, rfl⟩
      rw [← hx] at h1 h2
      obtain ⟨hx0, hx1, hx2⟩ := h2
      have hn1 : ¬ ((c k : Int) < x) := by omega
      have hn2 : ¬ (x < 0) := by omega
      have hw1 : IntKind.i64.wrap ((c k : Int) + 1) = (c k : Int) + 1 := Go.IntWalk.i64_in _ (by omega)
      have HX2 := hide' hx2
      clear hx hx2
      by_cases he : x = (c k : Int)
      · have HN : Hid (Value.int .i64 ((c k : Int) + 1) = .int .i64 (c (k + 1) : Int)) := by
          show _ = _
          rw [HX2.out, if_pos he]
          congr 1
        have hb : (x == (c k : Int)) = true := beq_iff_eq.2 he
        clear he
        go_wp2
        go_round
        case rel => exact ⟨k + 1, by go_num, HN.out, by omega⟩
        case measure => simp [intOf]; omega
      · have HN : Hid (Value.int .i64 (c k : Int) = .int .i64 (c (k + 1) : Int)) := by
          show _ = _
          rw [HX2.out, if_neg he]
        have hb : (x == (c k : Int)) = false := beq_eq_false_iff_ne.2 he
        clear he
        go_wp2
        go_round
        case rel => exact ⟨k + 1, by go_num, HN.out, by omega⟩
        case measure => simp [intOf]; omega
    · have hkn : k = l.length := by omega
      subst hkn
      go_wp2
      go_ret
      exact ⟨rfl, rfl⟩

theorem row_of_own4 {w : World} {B g n : Nat} {xs : List Value} (h : w.ownsRow B 4 1 (.slice (some ⟨g, 0, none⟩) n n) n xs) : w.heap[g]? = some (.cells xs.toArray 4 (0, 0)) := by
  rcases h.2 with ⟨h1, _⟩ | ⟨g', cap, cur, h1, _, h2, _, _, h3, h4⟩
  · cases h1
  · cases h1
    rw [h2]
    have : cur = xs.toArray := by
      rw [← h4, List.take_of_length_le (by rw [Array.length_toList, h3]; exact Nat.le_refl _)]
    rw [this]
theorem made_false (n : Nat) : (madeCells (Value.bool false).cells (n * 1)).toList = List.replicate n (.bool false) := by
  apply List.ext_getElem
  · simp [madeCells]
  · intro i h1 h2
    simp [madeCells, Value.cells, Nat.mod_one]
/-- Which lines are out, at work. -/
structure OSt (w W : World) (g : Array Value) (o : List Bool) : Prop where
  bx : NBx w W g
  hF : W.heap[w.heap.size + 1]? = some (.cells (o.map Value.bool).toArray 4 (0, 0))
theorem OSt.set {w W : World} {g : Array Value} {o : List Bool} (h : OSt w W g o) (k : Nat) (x : Bool) : OSt w (W.setCell ⟨w.heap.size + 1, k, none⟩ (.bool x)) g (o.set k x) := by
  refine ⟨⟨h.bx.bel.setCell (p := ⟨w.heap.size + 1, k, none⟩) (Nat.le_succ _) _, (Below.heap_setCell _ _ _ _ (Nat.ne_of_lt (Nat.lt_succ_self _))).trans h.bx.box⟩, ?_⟩
  rw [set_any h.hF k (.bool x)]
  congr 2
  apply Array.ext'
  simp [List.map_set]
theorem OSt.cell {w W : World} {g : Array Value} {o : List Bool} (h : OSt w W g o) {k : Nat} (hk : k < o.length) : W.cell? ⟨w.heap.size + 1, k, none⟩ = some (.bool (o.getD k false)) ∧ W.frozen? ⟨w.heap.size + 1, k, none⟩ = false := by
  refine ⟨?_, by simp [World.frozen?, h.hF]⟩
  simp only [World.cell?, h.hF]
  show (o.map Value.bool).toArray[k]? = _
  rw [List.getElem?_toArray, List.getElem?_map, List.getD_eq_getElem?_getD, List.getElem?_eq_getElem hk]
  rfl
theorem OSt.row {w W : World} {g : Array Value} {o : List Bool} {n : Nat} (h : OSt w W g o) (hn : o.length = n) : RowAt W (.slice (some ⟨w.heap.size + 1, 0, none⟩) n n) o.length 1 (o.map Value.bool) := by
  subst hn
  refine ⟨by simp, _, _, rfl, fun j u hj => ⟨_, 0, rfl, ?_⟩⟩
  simp only [World.cell?, h.hF]
  show (o.map Value.bool).toArray[0 + j]? = _
  rw [Nat.zero_add, List.getElem?_toArray, hj]

set_option maxRecDepth 100000 in
set_option maxHeartbeats 4000000 in
theorem OutFrom_any (N : NetM) (v outv : Value) (out : List Bool) (w : World) (hx : NetAt w v N) (hfit : Fits N) (ho : RowAt w outv out.length 1 (out.map Value.bool)) :
    Calls Tryz.prog 24 #[v, outv] w fun e w' => ∃ (o : List Bool) (a : Option Addr) (c : Nat), o.length = N.lines.length ∧ e = .returned (.slice a o.length c) ∧ RowAt w' (.slice a o.length c) o.length 1 (o.map Value.bool) ∧ Below w.heap.size w w' := by
  obtain ⟨vb, vl, vg, vd, vt, rfl, hb, hl, hg, hd, ht⟩ := hx
  obtain ⟨ab, cb, rfl⟩ := rowAt_slice hb
  obtain ⟨al, cl, rfl⟩ := rowAt_slice hl
  obtain ⟨ag, cg, rfl⟩ := rowAt_slice hg
  obtain ⟨ad, cd, rfl⟩ := rowAt_slice hd
  obtain ⟨at', ct, rfl⟩ := rowAt_slice ht
  have HO := hide' ho
  obtain ⟨ao, co, rfl⟩ := rowAt_slice ho
  have hll16 : N.lines.length ≤ 30 := hfit.2.1
  obtain ⟨i4, hi4, hyy0, hyy1, hyy2⟩ := info_parts Tryz.info4
  clear hb hl hg hd ht ho hfit
  go_enter Tryz.func24, Tryz.ntmps24
  go_wp2_with (at_make; refine wpList_make_full _ rfl _ _ 35 rfl (w.heap.size + 1) 4 i4 (.bool false) 1 Tryz.underlying35' hi4 hyy0 hyy1 .i64 .i64 _ _ N.lines.length rfl rfl rfl rfl (by rw [hyy2]; omega) (by unfold maxLen; omega) (by simp) ?_; intro w1 hown1 hg1; refine Still.go ?_)
  unfold Still
  have HST : Hid (OSt w w1 #[.string N.name, .slice ab N.buses.length cb, .slice al N.lines.length cl, .slice ag N.gens.length cg, .slice ad N.loads.length cd, .slice at' N.ties.length ct] (List.replicate N.lines.length false)) := by
    have h1 := row_of_own4 hown1
    rw [World.size_alloc, made_false] at h1
    refine ⟨⟨((Below.refl _ w).alloc (Nat.le_refl _) _).grown hg1 (by simp) (fun k e => by cases e), (hg1.block _ (by simp) (fun e => by cases e)).trans (World.alloc_heap_new w _)⟩, ?_⟩
    rw [h1, List.map_replicate]
  clear hown1 hg1
  go_wp2_with fail
  go_loopw [6] (fun i wr => ∃ (k : Nat) (o : List Bool), i = .int .i64 k ∧ k ≤ N.lines.length ∧ o.length = N.lines.length ∧ Hid (OSt w wr #[.string N.name, .slice ab N.buses.length cb, .slice al N.lines.length cl, .slice ag N.gens.length cg, .slice ad N.loads.length cd, .slice at' N.ties.length ct] o)) (fun i _ => N.lines.length - (intOf i).toNat)
  case atStart => exact ⟨0, _, rfl, Nat.zero_le _, List.length_replicate, HST⟩
  case round =>
    clear HST
    obtain ⟨k, o, rfl, hk, hol2, HS⟩ := hrel
    have HOL := hide' hol2
    clear hol2
    by_cases hlt : k < N.lines.length
    · by_cases hlo : k < out.length
      · obtain ⟨bo, oo, co', exo, hbo, hco⟩ := Row1.cell HO.out k hlo
        cases exo
        have d3 := (HS.out.bx.bel.cell (World.block_lt_of_cell? w _ hco)).trans hco
        obtain ⟨x, hx⟩ : ∃ x, x = out.getD k false := ⟨_, rfl⟩
        rw [← hx] at d3
        obtain ⟨cK, fK⟩ := HS.out.cell (k := k) (by rw [HOL.out]; exact hlt)
        obtain ⟨y, hy⟩ : ∃ y, y = o.getD k false := ⟨_, rfl⟩
        rw [← hy] at cK
        clear hco hbo hx hy
        go_wp2
        go_roundw
        case rel => exact ⟨k + 1, o.set k x, by go_num, by omega, by rw [List.length_set]; exact HOL.out, HS.out.set k x⟩
        case measure => simp [intOf]; omega
      · go_wp2
        go_ret
        exact ⟨o, _, _, HOL.out, by rw [HOL.out]; rfl, by rw [← HOL.out]; exact HS.out.row rfl, HS.out.bx.bel⟩
    · have hkn : k = N.lines.length := by omega
      go_wp2
      go_ret
      exact ⟨o, _, _, HOL.out, by rw [HOL.out]; rfl, by rw [← HOL.out]; exact HS.out.row rfl, HS.out.bx.bel⟩
end Go.Proofs.YtkcldnnopmagjabGreatDoor.Bar

/- A raw number's network may be; a tie of it is closed where it lies. -/
namespace Go.Proofs.YtkcldnnopmagjabGreatDoor.Bar
open Go.RowKit Go.Shelf Doc

theorem good_may {N : NetM} (h : GoodM N) : MayM N := by
  refine { fits := ⟨h.fits.1, h.fits.2.1, by rw [h.gens]; simp, by rw [h.loads]; simp, h.fits.2.2⟩, names := h.names, nodup := h.nodup, lines := (fun l hl => by have := h.lines l hl; omega), gens := (fun x hx => by rw [h.gens] at hx; cases hx), loads := (fun x hx => by rw [h.loads] at hx; cases hx), ties := h.ties, nm := h.nm }
theorem good_small {N : NetM} (h : GoodM N) : SmallM N := by
  have hsz : ∀ x ∈ namesM N, x.size ≤ 2000000 := fun x hx => by have := (h.wordy x (List.mem_cons_of_mem _ hx)).2; omega
  have h1 := h.fits
  refine ⟨by have := (h.wordy N.name (by simp)).2; omega, ⟨by omega, by omega, by rw [h.gens]; simp, by rw [h.loads]; simp, by omega⟩, fun x hx => hsz x ?_, fun x hx => ⟨hsz _ ?_, ?_⟩, fun x hx => ?_, fun x hx => ?_, fun x hx => ⟨hsz _ ?_, ?_⟩⟩
  · simp only [namesM, List.mem_append]; exact .inl (.inl (.inl (.inl hx)))
  · simp only [namesM, List.mem_append]; exact .inl (.inl (.inl (.inr (List.mem_map.2 ⟨x, hx, rfl⟩))))
  · have := h.lines x hx
    unfold I6
    omega
  · rw [h.gens] at hx; cases hx
  · rw [h.loads] at hx; cases hx
  · simp only [namesM, List.mem_append]; exact .inr (List.mem_map.2 ⟨x, hx, rfl⟩)
  · have := h.ties x hx
    unfold I6
    omega
/-- The network with its k-th tie closed. -/
def closeM (N : NetM) (k : Nat) (t : TieM) : NetM := { N with ties := N.ties.set k { t with closed := true } }
theorem close_names {N : NetM} {k : Nat} {t : TieM} (ht : N.ties[k]? = some t) : namesM (closeM N k t) = namesM N := by
  have : (N.ties.set k { t with closed := true }).map TieM.name = N.ties.map TieM.name := by
    apply List.ext_getElem?
    intro j
    rw [List.getElem?_map, List.getElem?_map, List.getElem?_set]
    by_cases e : k = j
    · subst e
      rw [if_pos rfl, if_pos (List.getElem?_eq_some_iff.1 ht).1, ht]
      rfl
    · rw [if_neg e]
  show N.buses ++ N.lines.map LineM.name ++ N.gens.map GenM.name ++ N.loads.map LoadM.name ++ (N.ties.set k { t with closed := true }).map TieM.name = _
  rw [this]
  rfl
theorem close_good {N : NetM} (h : GoodM N) {k : Nat} {t : TieM} (ht : N.ties[k]? = some t) : GoodM (closeM N k t) := by
  have hn := close_names ht
  refine { nm := h.nm, gens := h.gens, loads := h.loads, fits := ⟨h.fits.1, h.fits.2.1, by show (N.ties.set k _).length ≤ 24; rw [List.length_set]; exact h.fits.2.2⟩, names := (by rw [hn]; exact h.names), nodup := (by rw [hn]; exact h.nodup), wordy := (by rw [hn]; exact h.wordy), lines := h.lines, ties := fun l hl => ?_ }
  rcases List.mem_or_eq_of_mem_set hl with hl | rfl
  · exact h.ties l hl
  · exact h.ties t (List.mem_of_getElem? ht)
theorem flat_close : ∀ (ts : List TieM) (k : Nat) (t : TieM), ts[k]? = some t → (ts.flatMap TieM.cells).set (k * 4 + 3) (.bool true) = (ts.set k { t with closed := true }).flatMap TieM.cells
  | [], _, _, h => by simp at h
  | x :: r, 0, t, h => by
    simp at h
    subst h
    rfl
  | x :: r, k + 1, t, h => by
    have ih := flat_close r k t (by simpa using h)
    rw [List.set_cons_succ, List.flatMap_cons, List.flatMap_cons, ← ih, show (k + 1) * 4 + 3 = 4 + (k * 4 + 3) by omega, List.set_append_right _ _ (by show 4 ≤ _; omega)]
    congr 2
    show 4 + (k * 4 + 3) - 4 = _
    omega
theorem own_tie_set {W : World} {B k : Nat} {tv : Value} {ts : List TieM} {t : TieM} (h : W.ownsRow B 58 4 tv ts.length (ts.flatMap TieM.cells)) (ht : ts[k]? = some t) :
    ∃ g cp cur, tv = .slice (some ⟨g, 0, none⟩) ts.length cp ∧ B ≤ g ∧ W.heap[g]? = some (.cells cur 58 (0, 0)) ∧ W.cell? ⟨g, k * 4 + 1, none⟩ = some (.int .i64 t.frm) ∧ W.cell? ⟨g, k * 4 + 2, none⟩ = some (.int .i64 t.to) ∧ W.cell? ⟨g, k * 4 + 3, none⟩ = some (.bool t.closed) ∧ W.frozen? ⟨g, k * 4 + 3, none⟩ = false ∧
      (W.setCell ⟨g, k * 4 + 3, none⟩ (.bool true)).ownsRow B 58 4 tv ts.length ((ts.set k { t with closed := true }).flatMap TieM.cells) := by
  have hk : k < ts.length := (List.getElem?_eq_some_iff.1 ht).1
  have hrow := rowAt_of_own h
  rcases h.2 with ⟨_, e2⟩ | ⟨g, cp, cur, rfl, h4, h5, h6, h6b, h7, h8⟩
  · omega
  · have hget : ts[k] = t := by
      have := List.getElem?_eq_getElem hk
      rw [ht] at this
      injection this with this
      exact this.symm
    have hcell : ∀ j u, (t.cells)[j]? = some u → W.cell? ⟨g, k * 4 + j, none⟩ = some u := fun j u hj => by
      obtain ⟨b, off, c, e, _, hc⟩ := row_elem (f := TieM.cells) (fun _ => rfl) hrow k hk (by decide)
      cases e
      rw [hget] at hc
      have := hc j u hj
      rwa [Nat.zero_add] at this
    refine ⟨g, cp, cur, rfl, h4, h5, hcell 1 _ rfl, hcell 2 _ rfl, hcell 3 _ rfl, by simp [World.frozen?, h5], ?_, .inr ⟨g, cp, _, rfl, h4, set_any h5 _ _, h6, h6b, by rw [Array.size_setIfInBounds]; exact h7, ?_⟩⟩
    · rw [← flat_close ts k t ht, List.length_set]; exact h.1
    · rw [Array.toList_setIfInBounds, List.take_set, h8]
      exact flat_close ts k t ht
theorem own_apart {W : World} {B e sz m g j : Nat} {v u : Value} {xs : List Value} {cur : Array Value} (h : W.ownsRow B e sz v m xs) (hg : W.heap[g]? = some (.cells cur 58 (0, 0))) (he : e ≠ 58) : (W.setCell ⟨g, j, none⟩ u).ownsRow B e sz v m xs := own_other h (fun k hk => Below.heap_setCell _ _ _ _ (fun e2 => by
  rcases h.2 with ⟨rfl, _⟩ | ⟨g', cp, cur', rfl, _, h5, _⟩
  · cases hk
  · cases hk
    rw [show g' = g from e2] at h5
    rw [hg] at h5
    injection h5 with h5
    injection h5 with _ h5 _
    exact he h5.symm))
/-- A tie of an own network is closed where it lies. -/
theorem owns_close {W : World} {B k : Nat} {b l g d tv : Value} {N : NetM} {t : TieM} (h : Owns W B b l g d tv N) (ht : N.ties[k]? = some t) :
    ∃ gb cp, tv = .slice (some ⟨gb, 0, none⟩) N.ties.length cp ∧ B ≤ gb ∧ W.cell? ⟨gb, k * 4 + 1, none⟩ = some (.int .i64 t.frm) ∧ W.cell? ⟨gb, k * 4 + 2, none⟩ = some (.int .i64 t.to) ∧ W.cell? ⟨gb, k * 4 + 3, none⟩ = some (.bool t.closed) ∧ W.frozen? ⟨gb, k * 4 + 3, none⟩ = false ∧ (∃ cur, W.heap[gb]? = some (.cells cur 58 (0, 0))) ∧
      Owns (W.setCell ⟨gb, k * 4 + 3, none⟩ (.bool true)) B b l g d tv (closeM N k t) := by
  obtain ⟨gb, cp, cur, e1, h1, h2, h3, h4, h5, h6, h7⟩ := own_tie_set h.ht ht
  refine ⟨gb, cp, e1, h1, h3, h4, h5, h6, ⟨cur, h2⟩, own_apart h.hb h2 (by decide), own_apart h.hl h2 (by decide), own_apart h.hg h2 (by decide), own_apart h.hd h2 (by decide), ?_⟩
  show (W.setCell ⟨gb, k * 4 + 3, none⟩ (.bool true)).ownsRow B 58 4 tv (N.ties.set k { t with closed := true }).length _
  rw [List.length_set]
  exact h7
end Go.Proofs.YtkcldnnopmagjabGreatDoor.Bar
