/- Plain facts: what the search by hops reaches is what is joined. -/
import Derived.Test.YtjcpcjickdcpmacGreatDoorKBr8
import Derived.Test.YtjcpcjickdcpmacGreatDoorKBrd
namespace Go.Proofs.YtjcpcjickdcpmacGreatDoor.Bar

/-- Two buses at the ends of one link. -/
def Adj (links : List LinkM) (a b : Int) : Prop := ∃ l ∈ links, nextOf l a = some b
/-- Joined, by one link or by many. -/
def Conn (links : List LinkM) (a b : Int) : Prop := ∀ S : Int → Prop, S a → (∀ x y, S x → Adj links x y → S y) → S b
theorem Conn.refl {links : List LinkM} {a : Int} : Conn links a a := fun _ h _ => h
theorem Conn.step {links : List LinkM} {a b c : Int} (h : Conn links a b) (k : Adj links b c) : Conn links a c := fun S h1 h2 => h2 b c (h S h1 h2) k
theorem nextOf_iff {l : LinkM} {a b : Int} : nextOf l a = some b ↔ (l.p = a ∧ l.q = b) ∨ (l.p = b ∧ l.q = a) := by
  unfold nextOf
  constructor
  · intro h
    split at h
    · next h1 => exact .inl ⟨h1, Option.some.inj h⟩
    · split at h
      · next h2 => exact .inr ⟨Option.some.inj h, h2⟩
      · cases h
  · rintro (⟨h1, h2⟩ | ⟨h1, h2⟩)
    · rw [if_pos h1, h2]
    · by_cases hc : l.p = a
      · rw [if_pos hc, h2, ← h1, hc]
      · rw [if_neg hc, if_pos h2, h1]
theorem Adj.symm {links : List LinkM} {a b : Int} (h : Adj links a b) : Adj links b a := by
  obtain ⟨l, hl, h⟩ := h
  exact ⟨l, hl, nextOf_iff.2 (nextOf_iff.1 h).symm⟩
theorem Conn.trans {links : List LinkM} {a b c : Int} (h : Conn links a b) (k : Conn links b c) : Conn links a c := by
  exact k (fun c => Conn links a c) h (fun _ _ hx hxy => hx.step hxy)
theorem Conn.symm {links : List LinkM} {a b : Int} (h : Conn links a b) : Conn links b a := by
  exact h (fun c => Conn links c a) .refl (fun _ _ hx hxy => (Conn.step .refl hxy.symm).trans hx)
theorem onw_mem {links : List LinkM} {u : Int} {x : LinkM × Int} : x ∈ onw links u → x.1 ∈ links ∧ nextOf x.1 u = some x.2 := by
  induction links with
  | nil => intro h; cases h
  | cons l r ih =>
    intro h
    rw [onw] at h
    cases hn : nextOf l u with
    | none =>
      rw [hn] at h
      exact ⟨by simp [(ih h).1], (ih h).2⟩
    | some v =>
      rw [hn] at h
      rcases List.mem_cons.1 h with rfl | h
      · exact ⟨by simp, hn⟩
      · exact ⟨by simp [(ih h).1], (ih h).2⟩
theorem mem_onw {links : List LinkM} {u : Int} {l : LinkM} {v : Int} (hl : l ∈ links) (h : nextOf l u = some v) : (l, v) ∈ onw links u := by
  induction links with
  | nil => cases hl
  | cons x r ih =>
    rw [onw]
    rcases List.mem_cons.1 hl with rfl | hl
    · rw [h]; simp
    · cases hn : nextOf x u with
      | none => exact ih hl
      | some y => simp [ih hl]
theorem getD_set (D : List Int) (j k : Nat) (x : Int) (hj : j < D.length) : (D.set j x).getD k 0 = if j = k then x else D.getD k 0 := by
  rw [List.getD_eq_getElem?_getD, List.getElem?_set, List.getD_eq_getElem?_getD]
  by_cases h : j = k
  · subst h
    rw [if_pos rfl, if_pos hj, if_pos rfl]
    rfl
  · rw [if_neg h, if_neg h]
/-- What the search knows. -/
structure Seen (n : Nat) (links : List LinkM) (b : Int) (s : Reach2) : Prop where
  good : Good n s
  inn : ∀ j : Nat, j < n → (s.1.getD j 0 ≠ -1 ↔ (j : Int) ∈ s.2)
  conn : ∀ v ∈ s.2, Conn links b v
  pred : ∀ j : Nat, j < n → s.1.getD j 0 ≠ -1 → ((j : Int) = b ∧ s.1.getD j 0 = 0) ∨ ∃ u : Nat, u < n ∧ Adj links u j ∧ s.1.getD u 0 ≠ -1 ∧ s.1.getD j 0 = s.1.getD u 0 + 1
theorem Seen.visit {n : Nat} {links : List LinkM} {b : Int} {s : Reach2} (h : Seen n links b s) {u v : Nat} (hu : u < n) (hv : v < n) (hus : (u : Int) ∈ s.2) (ha : Adj links u v) : Seen n links b (Bar.visit (u : Int) s (v : Int)) := by
  have hg := h.good.visit (u := (u : Int)) (v := (v : Int)) (by omega) (by omega)
  unfold Bar.visit at hg ⊢
  rw [Int.toNat_natCast, Int.toNat_natCast] at hg ⊢
  split at hg
  · next hc =>
    rw [if_pos hc]
    have hvl : v < s.1.length := by rw [h.good.len]; exact hv
    have hun : s.1.getD u 0 ≠ -1 := (h.inn u hu).2 hus
    have hul := h.good.low _ (getD_in (D := s.1) (j := u) (by rw [h.good.len]; exact hu)).2
    have huv : v ≠ u := fun e => hun (by rw [← e]; exact hc)
    refine ⟨hg, fun j hj => ?_, fun x hx => ?_, fun j hj hjn => ?_⟩
    · rw [getD_set _ _ _ _ hvl]
      by_cases e : v = j
      · subst e
        rw [if_pos rfl]
        exact ⟨fun _ => by simp, fun _ => by omega⟩
      · rw [if_neg e, h.inn j hj]
        constructor
        · intro h1; simp [h1]
        · intro h1
          rcases List.mem_append.1 h1 with h1 | h1
          · exact h1
          · have := List.mem_singleton.1 h1; omega
    · rcases List.mem_append.1 hx with hx | hx
      · exact h.conn x hx
      · rw [List.mem_singleton.1 hx]
        exact (h.conn _ hus).step ha
    · have hs : ∀ k, v ≠ k → (s.1.set v (s.1.getD u 0 + 1)).getD k 0 = s.1.getD k 0 := fun k hk => by rw [getD_set _ _ _ _ hvl, if_neg hk]
      by_cases e : v = j
      · subst e
        refine .inr ⟨u, hu, ha, ?_, ?_⟩
        · rw [hs u huv]; exact hun
        · rw [hs u huv, getD_set _ _ _ _ hvl, if_pos rfl]
      · rw [hs j e] at hjn ⊢
        rcases h.pred j hj hjn with h1 | ⟨u', h1, h2, h3, h4⟩
        · exact .inl h1
        · have : v ≠ u' := fun e => h3 (by rw [← e]; exact hc)
          exact .inr ⟨u', h1, h2, by rw [hs u' this]; exact h3, by rw [hs u' this]; exact h4⟩
  · next hc =>
    rw [if_neg hc]
    exact h
theorem visit_has {n : Nat} {links : List LinkM} {b : Int} {s : Reach2} (h : Seen n links b s) {u : Int} {v : Nat} (hv : v < n) : (v : Int) ∈ (Bar.visit u s (v : Int)).2 := by
  unfold Bar.visit
  rw [Int.toNat_natCast]
  split
  · simp
  · next hc => exact (h.inn v hv).1 hc
theorem fold_pre (u : Int) : ∀ (xs : List (LinkM × Int)) (s : Reach2), ∃ ext, (xs.foldl (fun s x => Bar.visit u s x.2) s).2 = s.2 ++ ext
  | [], s => ⟨[], by simp⟩
  | x :: r, s => by
    obtain ⟨e1, h1⟩ := fold_pre u r (Bar.visit u s x.2)
    obtain ⟨e2, h2⟩ := visit_prefix u s x.2
    exact ⟨e2 ++ e1, by rw [List.foldl_cons, h1, h2, List.append_assoc]⟩
theorem Seen.fold {n : Nat} {links : List LinkM} {b : Int} (he : Ends n links) {u : Nat} (hu : u < n) : ∀ (xs : List (LinkM × Int)) {s : Reach2}, Seen n links b s → (u : Int) ∈ s.2 → (∀ x ∈ xs, Adj links u x.2 ∧ 0 ≤ x.2 ∧ x.2 < n) →
    Seen n links b (xs.foldl (fun s x => Bar.visit u s x.2) s) ∧ ∀ x ∈ xs, x.2 ∈ (xs.foldl (fun s x => Bar.visit u s x.2) s).2
  | [], _, h, _, _ => ⟨h, fun x hx => by cases hx⟩
  | x :: r, s, h, hus, hx => by
    obtain ⟨ha, h0, h1⟩ := hx x (by simp)
    obtain ⟨v, hv⟩ := Int.eq_ofNat_of_zero_le h0
    have hvn : v < n := by omega
    rw [List.foldl_cons, hv]
    have hs := h.visit hu hvn hus (by rw [← hv]; exact ha)
    obtain ⟨e, hp⟩ := visit_prefix (u : Int) s (v : Int)
    obtain ⟨i1, i2⟩ := Seen.fold he hu r hs (by rw [hp]; simp [hus]) (fun y hy => hx y (by simp [hy]))
    refine ⟨i1, fun y hy => ?_⟩
    rcases List.mem_cons.1 hy with rfl | hy
    · obtain ⟨e2, hp2⟩ := fold_pre (u : Int) r (Bar.visit u s (v : Int))
      rw [hp2, hv]
      exact List.mem_append_left _ (visit_has h hvn)
    · exact i2 y hy
/-- The first i are done: whatever is next to them is known. -/
def DoneTo (links : List LinkM) (s : Reach2) (i : Nat) : Prop := ∀ j, j < i → j < s.2.length → ∀ v, Adj links (s.2.getD j 0) v → v ∈ s.2
theorem adj_range {n : Nat} {links : List LinkM} (he : Ends n links) {a b : Int} (h : Adj links a b) : 0 ≤ b ∧ b < n := by
  obtain ⟨l, hl, h⟩ := h
  exact onw_ends he (l, b) (mem_onw hl h)
theorem bfs_seen {n : Nat} {links : List LinkM} {b : Int} (he : Ends n links) : ∀ (f i : Nat) (s : Reach2), Seen n links b s → DoneTo links s i → f + i = n + 1 → Seen n links b (bfs links f i s) ∧ DoneTo links (bfs links f i s) (n + 1)
  | 0, i, s, h, hd, hf => ⟨h, by rw [show n + 1 = i by omega]; exact hd⟩
  | f + 1, i, s, h, hd, hf => by
    rw [bfs]
    split
    · next hlt =>
      obtain ⟨m0, m1⟩ := h.good.mem _ (getD_in hlt).2
      obtain ⟨u, hu⟩ := Int.eq_ofNat_of_zero_le m0
      have hun : u < n := by omega
      have hum : (u : Int) ∈ s.2 := by rw [← hu]; exact (getD_in hlt).2
      have hx : ∀ x ∈ onw links u, Adj links u x.2 ∧ 0 ≤ x.2 ∧ x.2 < n := fun x hx => ⟨⟨x.1, (onw_mem hx).1, (onw_mem hx).2⟩, onw_ends he x hx⟩
      obtain ⟨h1, h2⟩ := Seen.fold he hun (onw links u) h hum hx
      obtain ⟨ext, hp⟩ := fold_pre (u : Int) (onw links u) s
      refine bfs_seen he f (i + 1) _ (by rw [hu]; exact h1) ?_ (by omega)
      rw [hu]
      intro j hj hjl v hv
      show v ∈ ((onw links u).foldl (fun s x => Bar.visit u s x.2) s).2
      have hg : j < s.2.length → (roundB links (u : Int) s).2.getD j 0 = s.2.getD j 0 := fun h9 => by
        show ((onw links u).foldl (fun s x => Bar.visit u s x.2) s).2.getD j 0 = _
        rw [hp, List.getD_eq_getElem?_getD, List.getElem?_append_left h9, ← List.getD_eq_getElem?_getD]
      by_cases e : j = i
      · subst e
        rw [hg hlt, hu] at hv
        obtain ⟨l, hl, hn⟩ := hv
        exact h2 (l, v) (mem_onw hl hn)
      · rw [hg (by omega)] at hv
        rw [hp]
        exact List.mem_append_left _ (hd j (by omega) (by omega) v hv)
    · next hlt =>
      exact ⟨h, fun j _ hj v hv => hd j (by omega) hj v hv⟩
theorem Seen.start {n : Nat} {links : List LinkM} {b : Nat} (hb : b < n) : Seen n links b (start n (b : Int)) := by
  have hl : b < (List.replicate n (-1 : Int)).length := by simpa using hb
  have hg : ∀ j, j < n → ((List.replicate n (-1 : Int)).set b 0).getD j 0 = if b = j then 0 else -1 := fun j hj => by
    rw [getD_set _ _ _ _ hl]
    by_cases e : b = j
    · rw [if_pos e, if_pos e]
    · rw [if_neg e, if_neg e, List.getD_eq_getElem?_getD, List.getElem?_replicate, if_pos hj]
      rfl
  refine ⟨Good.start (by omega), fun j hj => ?_, fun v hv => ?_, fun j hj hjn => ?_⟩
  · show ((List.replicate n (-1 : Int)).set (b : Int).toNat 0).getD j 0 ≠ -1 ↔ (j : Int) ∈ [(b : Int)]
    rw [Int.toNat_natCast, hg j hj, List.mem_singleton]
    by_cases e : b = j
    · rw [if_pos e]; omega
    · rw [if_neg e]; omega
  · rw [List.mem_singleton.1 hv]; exact .refl
  · have h1 : ((List.replicate n (-1 : Int)).set (b : Int).toNat 0).getD j 0 ≠ -1 := hjn
    refine .inl ?_
    show (j : Int) = b ∧ ((List.replicate n (-1 : Int)).set (b : Int).toNat 0).getD j 0 = 0
    rw [Int.toNat_natCast, hg j hj] at h1 ⊢
    by_cases e : b = j
    · rw [if_pos e]; omega
    · rw [if_neg e] at h1; omega
theorem bfs_pre {links : List LinkM} : ∀ (f i : Nat) (s : Reach2), ∃ ext, (bfs links f i s).2 = s.2 ++ ext
  | 0, _, s => ⟨[], by simp [bfs]⟩
  | f + 1, i, s => by
    rw [bfs]
    split
    · obtain ⟨e1, h1⟩ := bfs_pre f (i + 1) (roundB links (s.2.getD i 0) s)
      obtain ⟨e2, h2⟩ := fold_pre (s.2.getD i 0) (onw links (s.2.getD i 0)) s
      exact ⟨e2 ++ e1, by rw [h1, roundB, h2, List.append_assoc]⟩
    · exact ⟨[], by simp⟩
/-- The search reaches what is joined, and nothing else; each is next to one that is nearer. -/
theorem far_spec {n : Nat} {links : List LinkM} (he : Ends n links) {b : Nat} (hb : b < n) :
    (∀ j : Nat, j < n → ((farL n links b).getD j 0 ≠ -1 ↔ Conn links b j)) ∧ (∀ j : Nat, j < n → -1 ≤ (farL n links b).getD j 0 ∧ (farL n links b).getD j 0 < n) ∧
    (∀ j : Nat, j < n → (farL n links b).getD j 0 ≠ -1 → ((j : Int) = b ∧ (farL n links b).getD j 0 = 0) ∨ ∃ u : Nat, u < n ∧ Adj links u j ∧ (farL n links b).getD u 0 ≠ -1 ∧ (farL n links b).getD j 0 = (farL n links b).getD u 0 + 1) := by
  obtain ⟨hs, hd⟩ := bfs_seen he (n + 1) 0 _ (Seen.start (links := links) hb) (fun j hj => by omega) rfl
  have hall : ∀ v, Conn links b v → v ∈ (bfs links (n + 1) 0 (start n (b : Int))).2 := fun v hv => by
    refine hv (fun v => v ∈ (bfs links (n + 1) 0 (start n (b : Int))).2) ?_ (fun x y ih h2 => ?_)
    · obtain ⟨ext, hp⟩ := bfs_pre (links := links) (n + 1) 0 (start n (b : Int))
      rw [hp]
      exact List.mem_append_left _ (by simp [Bar.start])
    · obtain ⟨j, hj, hje⟩ := List.getElem_of_mem ih
      refine hd j (by have := hs.good.le; omega) hj _ ?_
      rw [List.getD_eq_getElem?_getD, List.getElem?_eq_getElem hj, hje]
      exact h2
  refine ⟨fun j hj => ?_, fun j hj => ?_, hs.pred⟩
  · rw [show ((farL n links b).getD j 0 ≠ -1 ↔ Conn links b j) = ((bfs links (n + 1) 0 (start n (b : Int))).1.getD j 0 ≠ -1 ↔ Conn links b j) from rfl, hs.inn j hj]
    exact ⟨fun h => hs.conn _ h, fun h => hall _ h⟩
  · have h1 := hs.good.low _ (getD_in (D := (bfs links (n + 1) 0 (start n (b : Int))).1) (j := j) (by rw [hs.good.len]; exact hj)).2
    have h2 := hs.good.le
    refine ⟨h1.1, ?_⟩
    have := h1.2
    show (bfs links (n + 1) 0 (start n (b : Int))).1.getD j 0 < _
    omega
end Go.Proofs.YtjcpcjickdcpmacGreatDoor.Bar

namespace Go.Proofs.YtjcpcjickdcpmacGreatDoor.Bar

theorem least_exists (P : Nat → Prop) : ∀ j, P j → ∃ r, r ≤ j ∧ P r ∧ ∀ i, P i → r ≤ i := by
  intro j
  induction j using Nat.strongRecOn with
  | _ j ih =>
    intro h
    by_cases hc : ∃ i, i < j ∧ P i
    · obtain ⟨i, hi, hp⟩ := hc
      obtain ⟨r, h1, h2, h3⟩ := ih i hi hp
      exact ⟨r, by omega, h2, h3⟩
    · exact ⟨j, Nat.le_refl _, h, fun i hi => Nat.le_of_not_lt fun hlt => hc ⟨i, hlt, hi⟩⟩
/-- Of each bus the first of those that it is joined with. -/
def Roots (links : List LinkM) (R : Nat → Nat) : Prop := ∀ j, R j ≤ j ∧ Conn links (R j : Int) (j : Int) ∧ ∀ i : Nat, Conn links (i : Int) (j : Int) → R j ≤ i
theorem roots_exist (links : List LinkM) : ∃ R, Roots links R :=
  ⟨fun j => Classical.choose (least_exists (fun i => Conn links (i : Int) (j : Int)) j .refl), fun j => Classical.choose_spec (least_exists (fun i => Conn links (i : Int) (j : Int)) j .refl)⟩
theorem root_iff {links : List LinkM} {R : Nat → Nat} (hR : Roots links R) (a b : Nat) : Conn links (a : Int) (b : Int) ↔ R a = R b := by
  constructor
  · intro h
    refine Nat.le_antisymm ?_ ?_
    · exact (hR a).2.2 _ ((hR b).2.1.trans h.symm)
    · exact (hR b).2.2 _ ((hR a).2.1.trans h)
  · intro h
    have h1 := (hR b).2.1
    rw [← h] at h1
    exact (hR a).2.1.symm.trans h1
theorem root_root {links : List LinkM} {R : Nat → Nat} (hR : Roots links R) (j : Nat) : R (R j) = R j := (root_iff hR _ _).1 (hR j).2.1
/-- How many firsts there are below k. -/
def cntR (R : Nat → Nat) : Nat → Nat
  | 0 => 0
  | k + 1 => if R k = k then cntR R k + 1 else cntR R k
theorem paintTo_get (fs : List Int) (c : Int) (G : List Int) (j : Nat) (hj : j < G.length) : ∀ q, q ≤ G.length → (paintTo fs c G q).getD j 0 = if j < q ∧ fs.getD j 0 ≠ -1 then c else G.getD j 0
  | 0, _ => by simp [paintTo]
  | q + 1, hq => by
    have ih := paintTo_get fs c G j hj q (by omega)
    rw [paintTo]
    by_cases hc : fs.getD q 0 = -1
    · rw [if_pos hc, ih]
      by_cases e : j = q
      · subst e
        rw [if_neg (fun h => h.2 hc), if_neg (fun h => h.2 hc)]
      · by_cases h1 : j < q ∧ fs.getD j 0 ≠ -1
        · rw [if_pos h1, if_pos ⟨by omega, h1.2⟩]
        · rw [if_neg h1, if_neg (fun h => h1 ⟨by omega, h.2⟩)]
    · rw [if_neg hc, getD_set _ _ _ _ (by rw [paintTo_len]; omega)]
      by_cases e : q = j
      · subst e
        rw [if_pos rfl, if_pos ⟨by omega, hc⟩]
      · rw [if_neg e, ih]
        by_cases h1 : j < q ∧ fs.getD j 0 ≠ -1
        · rw [if_pos h1, if_pos ⟨by omega, h1.2⟩]
        · rw [if_neg h1, if_neg (fun h => h1 ⟨by omega, h.2⟩)]
theorem groups_spec {n : Nat} {links : List LinkM} {R : Nat → Nat} (hR : Roots links R) (he : Ends n links) : ∀ k, k ≤ n → (groupsS n links k).2 = cntR R k ∧ ∀ j, j < n → (groupsS n links k).1.getD j 0 = if R j < k then (cntR R (R j) : Int) else -1
  | 0, _ => ⟨rfl, fun j hj => by
      rw [groupsS, if_neg (by omega), List.getD_eq_getElem?_getD, List.getElem?_replicate, if_pos hj]
      rfl⟩
  | k + 1, hk => by
    obtain ⟨h1, h2⟩ := groups_spec hR he k (by omega)
    have hle := (hR k).1
    rw [groupsS, gstep, cntR]
    by_cases hr : R k = k
    · have hc : (groupsS n links k).1.getD k 0 = -1 := by rw [h2 k (by omega), if_neg (by omega)]
      rw [if_pos hc, if_pos hr]
      refine ⟨by rw [h1], fun j hj => ?_⟩
      show (paintTo (farL n links k) ((groupsS n links k).2 : Int) (groupsS n links k).1 n).getD j 0 = _
      rw [paintTo_get _ _ _ j (by rw [groupsS_len]; exact hj) n (by rw [groupsS_len]; exact Nat.le_refl _), h2 j hj, h1]
      have hcn := ((far_spec he (b := k) (by omega)).1 j hj).trans (root_iff hR k j)
      by_cases hj2 : R j = k
      · rw [if_pos ⟨hj, hcn.2 (by rw [hr, hj2])⟩, if_pos (by omega), hj2]
      · rw [if_neg (fun h => hj2 (by have := hcn.1 h.2; omega))]
        by_cases h3 : R j < k
        · rw [if_pos h3, if_pos (by omega)]
        · rw [if_neg h3, if_neg (by omega)]
    · have hc : (groupsS n links k).1.getD k 0 ≠ -1 := by rw [h2 k (by omega), if_pos (by omega)]; omega
      rw [if_neg hc, if_neg hr]
      refine ⟨h1, fun j hj => ?_⟩
      rw [h2 j hj]
      have hj2 : R j ≠ k := fun e => hr (by have := root_root hR j; rw [e] at this; exact this)
      by_cases h3 : R j < k
      · rw [if_pos h3, if_pos (by omega)]
      · rw [if_neg h3, if_neg (by omega)]

/-- A list of pairs, levelled one by one. -/
def levels (l : List Int) (ps : List (Nat × Nat)) : List Int := ps.foldl (fun l p => levelL l p.1 p.2) l
def pr (l : LinkM) : Nat × Nat := (l.p.toNat, l.q.toNat)
theorem levels_app (l : List Int) (ps qs : List (Nat × Nat)) : levels l (ps ++ qs) = levels (levels l ps) qs := by simp [levels]
theorem tieTo_levels (ts : List TieM) (l : List Int) : ∀ k, tieTo ts l k = levels l ((linksT ts k).map pr)
  | 0 => rfl
  | k + 1 => by
    have ih := tieTo_levels ts l k
    rw [tieTo, linksT]
    cases ts[k]? with
    | none => exact ih
    | some t =>
      show (if t.closed then levelL (tieTo ts l k) t.frm.toNat t.to.toNat else tieTo ts l k) = levels l ((if t.closed then linksT ts k ++ [⟨true, (k : Int), t.frm, t.to⟩] else linksT ts k).map pr)
      by_cases hc : t.closed = true
      · rw [if_pos hc, if_pos hc, List.map_append, levels_app, ← ih]
        rfl
      · rw [if_neg hc, if_neg hc]
        exact ih
theorem lineTo_levels (ls : List LineM) (out : List Bool) (l : List Int) : ∀ k, lineTo ls out l k = levels l ((linksN ls out k).map pr)
  | 0 => rfl
  | k + 1 => by
    have ih := lineTo_levels ls out l k
    rw [lineTo, linksN]
    cases ls[k]? with
    | none => exact ih
    | some t =>
      show (if out.getD k false then lineTo ls out l k else levelL (lineTo ls out l k) t.frm.toNat t.to.toNat) = levels l ((if out.getD k false then linksN ls out k else linksN ls out k ++ [⟨false, (k : Int), t.frm, t.to⟩]).map pr)
      by_cases hc : out.getD k false = true
      · rw [if_pos hc, if_pos hc]
        exact ih
      · rw [if_neg hc, if_neg hc, List.map_append, levels_app, ← ih]
        rfl
/-- Each bus has a number of those that it is joined with, none above its own. -/
def WInv (n : Nat) (links : List LinkM) (l : List Int) : Prop := l.length = n ∧ ∀ j, j < n → ∃ x : Nat, l.getD j 0 = (x : Int) ∧ x ≤ j ∧ Conn links (x : Int) (j : Int)
theorem level_get {l : List Int} {a b : Nat} (ha : a < l.length) (hb : b < l.length) (j : Nat) : (levelL l a b).getD j 0 = if l.getD a 0 < l.getD b 0 then (if b = j then l.getD a 0 else l.getD j 0) else (if a = j then l.getD b 0 else l.getD j 0) := by
  unfold levelL
  by_cases h : l.getD a 0 < l.getD b 0
  · rw [if_pos h, if_pos h, getD_set _ _ _ _ hb]
  · rw [if_neg h, if_neg h, getD_set _ _ _ _ ha]
theorem level_facts {n : Nat} {links : List LinkM} {l : List Int} (h : WInv n links l) {a b : Nat} (ha : a < n) (hb : b < n) (hab : Adj links a b) :
    WInv n links (levelL l a b) ∧ (∀ j, j < n → (levelL l a b).getD j 0 ≤ l.getD j 0) ∧ (levelL l a b).getD b 0 ≤ l.getD a 0 ∧ (levelL l a b).getD a 0 ≤ l.getD b 0 := by
  have hla : a < l.length := by rw [h.1]; exact ha
  have hlb : b < l.length := by rw [h.1]; exact hb
  obtain ⟨x, hx, hxa, hxc⟩ := h.2 a ha
  obtain ⟨y, hy, hyb, hyc⟩ := h.2 b hb
  have hg := level_get hla hlb
  refine ⟨⟨by rw [levelL_len, h.1], fun j hj => ?_⟩, fun j hj => ?_, ?_, ?_⟩
  · rw [hg j]
    by_cases hc : l.getD a 0 < l.getD b 0
    · rw [if_pos hc]
      by_cases e : b = j
      · subst e
        rw [if_pos rfl]
        exact ⟨x, hx, by omega, hxc.step hab⟩
      · rw [if_neg e]; exact h.2 j hj
    · rw [if_neg hc]
      by_cases e : a = j
      · subst e
        rw [if_pos rfl]
        exact ⟨y, hy, by omega, hyc.step hab.symm⟩
      · rw [if_neg e]; exact h.2 j hj
  · rw [hg j]
    by_cases hc : l.getD a 0 < l.getD b 0
    · rw [if_pos hc]
      by_cases e : b = j
      · subst e; rw [if_pos rfl]; omega
      · rw [if_neg e]; exact Int.le_refl _
    · rw [if_neg hc]
      by_cases e : a = j
      · subst e; rw [if_pos rfl]; omega
      · rw [if_neg e]; exact Int.le_refl _
  · rw [hg b]
    by_cases hc : l.getD a 0 < l.getD b 0
    · rw [if_pos hc, if_pos rfl]; exact Int.le_refl _
    · rw [if_neg hc]
      by_cases e : a = b
      · rw [if_pos e, e]; exact Int.le_refl _
      · rw [if_neg e]; omega
  · rw [hg a]
    by_cases hc : l.getD a 0 < l.getD b 0
    · rw [if_pos hc]
      by_cases e : b = a
      · rw [if_pos e, e]; exact Int.le_refl _
      · rw [if_neg e]; omega
    · rw [if_neg hc, if_pos rfl]; exact Int.le_refl _
/-- Pairs that are links. -/
def PairsOk (n : Nat) (links : List LinkM) (ps : List (Nat × Nat)) : Prop := ∀ p ∈ ps, p.1 < n ∧ p.2 < n ∧ Adj links (p.1 : Int) (p.2 : Int)
theorem levels_facts {n : Nat} {links : List LinkM} : ∀ (ps : List (Nat × Nat)) {l : List Int}, PairsOk n links ps → WInv n links l →
    WInv n links (levels l ps) ∧ (∀ j, j < n → (levels l ps).getD j 0 ≤ l.getD j 0) ∧ ∀ p ∈ ps, (levels l ps).getD p.2 0 ≤ l.getD p.1 0 ∧ (levels l ps).getD p.1 0 ≤ l.getD p.2 0
  | [], l, _, h => ⟨h, fun _ _ => Int.le_refl _, fun p hp => by cases hp⟩
  | p :: r, l, hp, h => by
    obtain ⟨p1, p2, p3⟩ := hp p (by simp)
    obtain ⟨h1, h2, h3, h4⟩ := level_facts h p1 p2 p3
    obtain ⟨i1, i2, i3⟩ := levels_facts r (fun q hq => hp q (by simp [hq])) h1
    refine ⟨i1, fun j hj => Int.le_trans (i2 j hj) (h2 j hj), fun q hq => ?_⟩
    rcases List.mem_cons.1 hq with rfl | hq'
    · exact ⟨Int.le_trans (i2 _ p2) h3, Int.le_trans (i2 _ p1) h4⟩
    · obtain ⟨q1, q2, _⟩ := hp q (by simp [hq'])
      exact ⟨Int.le_trans (i3 q hq').1 (h2 _ q1), Int.le_trans (i3 q hq').2 (h2 _ q2)⟩
theorem idTo_get (n : Nat) (j : Nat) (hj : j < n) : ∀ k, k ≤ n → (idTo n k).getD j 0 = if j < k then (j : Int) else 0
  | 0, _ => by
    rw [idTo, if_neg (by omega), List.getD_eq_getElem?_getD, List.getElem?_replicate, if_pos hj]
    rfl
  | k + 1, hk => by
    rw [idTo, getD_set _ _ _ _ (by rw [idTo_len]; omega), idTo_get n j hj k (by omega)]
    by_cases e : k = j
    · subst e; rw [if_pos rfl, if_pos (by omega)]
    · rw [if_neg e]
      by_cases h : j < k
      · rw [if_pos h, if_pos (by omega)]
      · rw [if_neg h, if_neg (by omega)]
/-- The least number spreads. -/
def whoI (n : Nat) (ps : List (Nat × Nat)) : Nat → List Int
  | 0 => idTo n n
  | k + 1 => levels (whoI n ps k) ps
theorem whoI_inv {n : Nat} {links : List LinkM} {ps : List (Nat × Nat)} (hp : PairsOk n links ps) : ∀ k, WInv n links (whoI n ps k)
  | 0 => ⟨idTo_len n n, fun j hj => ⟨j, by rw [whoI, idTo_get n j hj n (Nat.le_refl _), if_pos hj], Nat.le_refl _, .refl⟩⟩
  | k + 1 => (levels_facts ps hp (whoI_inv hp k)).1
theorem whoI_near {n : Nat} {links : List LinkM} {ps : List (Nat × Nat)} {R : Nat → Nat} (hR : Roots links R) (he : Ends n links) (hp : PairsOk n links ps) (hq : ∀ u v : Nat, Adj links (u : Int) (v : Int) → (u, v) ∈ ps ∨ (v, u) ∈ ps) {m : Nat} (hm : m < n) (hr : R m = m) :
    ∀ k j : Nat, j < n → (farL n links m).getD j 0 ≠ -1 → (farL n links m).getD j 0 ≤ (k : Int) → (whoI n ps k).getD j 0 = (m : Int) := by
  obtain ⟨f1, f2, f3⟩ := far_spec he hm
  have hlow : ∀ k j, j < n → (farL n links m).getD j 0 ≠ -1 → (m : Int) ≤ (whoI n ps k).getD j 0 := fun k j hj hd => by
    obtain ⟨x, hx, _, hc⟩ := (whoI_inv hp k).2 j hj
    have h1 := (hR j).2.2 x hc
    have h2 := (root_iff hR m j).1 ((f1 j hj).1 hd)
    rw [hx]
    omega
  intro k
  induction k with
  | zero =>
    intro j hj hd hk
    rcases f3 j hj hd with ⟨h1, _⟩ | ⟨u, hu, _, h2, h3⟩
    · have : j = m := by omega
      rw [whoI, idTo_get n j hj n (Nat.le_refl _), if_pos hj, this]
    · have := f2 u hu
      omega
  | succ k ih =>
    intro j hj hd hk
    obtain ⟨_, g2, g3⟩ := levels_facts ps hp (whoI_inv hp k)
    refine Int.le_antisymm ?_ (hlow (k + 1) j hj hd)
    by_cases hkk : (farL n links m).getD j 0 ≤ (k : Int)
    · have := g2 j hj
      rw [ih j hj hd hkk] at this
      exact this
    · rcases f3 j hj hd with ⟨h1, h0⟩ | ⟨u, hu, ha, h2, h3⟩
      · omega
      · have hw := ih u hu h2 (by omega)
        rcases hq u j ha with h | h
        · have := (g3 _ h).1
          rw [hw] at this
          exact this
        · have := (g3 _ h).2
          rw [hw] at this
          exact this
theorem whoI_root {n : Nat} {links : List LinkM} {ps : List (Nat × Nat)} {R : Nat → Nat} (hR : Roots links R) (he : Ends n links) (hp : PairsOk n links ps) (hq : ∀ u v : Nat, Adj links (u : Int) (v : Int) → (u, v) ∈ ps ∨ (v, u) ∈ ps) (j : Nat) (hj : j < n) : (whoI n ps n).getD j 0 = (R j : Int) := by
  have hm : R j < n := Nat.lt_of_le_of_lt (hR j).1 hj
  obtain ⟨f1, f2, _⟩ := far_spec he hm
  exact whoI_near hR he hp hq hm (root_root hR j) n j hj ((f1 j hj).2 (hR j).2.1) (by have := f2 j hj; omega)
theorem num_spec {n : Nat} {links : List LinkM} {R : Nat → Nat} (hR : Roots links R) {who : List Int} (hw : ∀ j, j < n → who.getD j 0 = (R j : Int)) : ∀ k, k ≤ n → (numS n who k).2 = cntR R k ∧ ∀ j, j < k → (numS n who k).1.getD j 0 = (cntR R (R j) : Int)
  | 0, _ => ⟨rfl, fun j hj => by omega⟩
  | k + 1, hk => by
    obtain ⟨h1, h2⟩ := num_spec hR hw k (by omega)
    have hl : k < (numS n who k).1.length := by rw [numS_len]; omega
    rw [numS, hw k (by omega), cntR]
    by_cases hr : R k = k
    · rw [if_pos (by rw [hr]), if_pos hr]
      refine ⟨by rw [h1], fun j hj => ?_⟩
      show ((numS n who k).1.set k ((numS n who k).2 : Int)).getD j 0 = _
      rw [getD_set _ _ _ _ hl, h1]
      by_cases e : k = j
      · subst e; rw [if_pos rfl, hr]
      · rw [if_neg e, h2 j (by omega)]
    · rw [if_neg (by omega), if_neg hr]
      refine ⟨h1, fun j hj => ?_⟩
      show ((numS n who k).1.set k ((numS n who k).1.getD ((R k : Int)).toNat 0)).getD j 0 = _
      rw [getD_set _ _ _ _ hl]
      by_cases e : k = j
      · subst e
        have hle := (hR k).1
        rw [if_pos rfl, Int.toNat_natCast, h2 _ (by omega), root_root hR]
      · rw [if_neg e, h2 j (by omega)]
theorem list_eq {n : Nat} {a b : List Int} (ha : a.length = n) (hb : b.length = n) (h : ∀ j, j < n → a.getD j 0 = b.getD j 0) : a = b := by
  refine List.ext_getElem (by rw [ha, hb]) fun j h1 h2 => ?_
  have := h j (by omega)
  rwa [List.getD_eq_getElem?_getD, List.getD_eq_getElem?_getD, List.getElem?_eq_getElem h1, List.getElem?_eq_getElem h2] at this
/-- The two numberings are one. -/
theorem one_numbering {n : Nat} {links : List LinkM} {ps : List (Nat × Nat)} {who : List Int} (he : Ends n links) (hm : ∀ p, p ∈ ps ↔ p ∈ links.map pr) (hw : who = whoI n ps n) : groupsL n links = (numS n who n).1 := by
  obtain ⟨R, hR⟩ := roots_exist links
  have hl : ∀ l ∈ links, ∃ u v : Nat, l.p = u ∧ l.q = v ∧ u < n ∧ v < n := fun l hl => by
    obtain ⟨h1, h2, h3, h4⟩ := he l hl
    obtain ⟨u, hu⟩ := Int.eq_ofNat_of_zero_le h1
    obtain ⟨v, hv⟩ := Int.eq_ofNat_of_zero_le h3
    exact ⟨u, v, hu, hv, by omega, by omega⟩
  have hp : PairsOk n links ps := fun p hp => by
    obtain ⟨l, hl1, rfl⟩ := List.mem_map.1 ((hm p).1 hp)
    obtain ⟨u, v, hu, hv, hun, hvn⟩ := hl l hl1
    simp only [pr, hu, hv, Int.toNat_natCast]
    exact ⟨hun, hvn, l, hl1, nextOf_iff.2 (.inl ⟨hu, hv⟩)⟩
  have hq : ∀ u v : Nat, Adj links (u : Int) (v : Int) → (u, v) ∈ ps ∨ (v, u) ∈ ps := fun u v ⟨l, hl1, hn⟩ => by
    rcases nextOf_iff.1 hn with ⟨h1, h2⟩ | ⟨h1, h2⟩
    · refine .inl ((hm _).2 (List.mem_map.2 ⟨l, hl1, ?_⟩))
      simp [pr, h1, h2]
    · refine .inr ((hm _).2 (List.mem_map.2 ⟨l, hl1, ?_⟩))
      simp [pr, h1, h2]
  have hwho : ∀ j, j < n → who.getD j 0 = (R j : Int) := fun j hj => by rw [hw]; exact whoI_root hR he hp hq j hj
  refine list_eq (groupsL_len n links) (numS_len n who n) fun j hj => ?_
  have h1 := (groups_spec hR he n (Nat.le_refl _)).2 j hj
  have hlt := Nat.lt_of_le_of_lt (hR j).1 hj
  rw [if_pos hlt] at h1
  rw [(num_spec hR hwho n (Nat.le_refl _)).2 j hj]
  exact h1
theorem who_islands (N : NetM) (out : List Bool) : ∀ k, whoS N out true k = whoI N.buses.length ((linksT N.ties N.ties.length).map pr ++ (linksN N.lines out N.lines.length).map pr) k
  | 0 => rfl
  | k + 1 => by
    rw [whoS, whoI, sweepL, if_pos rfl, lineTo_levels, tieTo_levels, ← levels_app, who_islands N out k]
theorem islands_one {N : NetM} (he : EndsM N) (out : List Bool) : groupsL N.buses.length (serviceL N out) = joinedL N out true := by
  refine one_numbering (ps := (linksT N.ties N.ties.length).map pr ++ (linksN N.lines out N.lines.length).map pr) ?_ (fun p => ?_) (who_islands N out _)
  · intro l hl
    rcases List.mem_append.1 hl with hl | hl
    · exact linksN_ends he out _ l hl
    · exact linksT_ends he _ l hl
  · rw [serviceL, List.map_append, List.mem_append, List.mem_append]
    exact Or.comm
end Go.Proofs.YtjcpcjickdcpmacGreatDoor.Bar
