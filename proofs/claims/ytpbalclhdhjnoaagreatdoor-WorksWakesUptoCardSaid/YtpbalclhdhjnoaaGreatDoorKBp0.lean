/- Plain facts: what the search by hops reaches is what is joined. -/
import Derived.Test.YtpbalclhdhjnoaaGreatDoorKBr8
import Derived.Test.YtpbalclhdhjnoaaGreatDoorKBrd
namespace Go.Proofs.YtpbalclhdhjnoaaGreatDoor.Bar

/-- Two buses at the ends of one link. -/
def Adj (links : List LinkM) (a b : Int) : Prop := ∃ l ∈ links, nextOf l a = some b
/-- Joined, by one link or by many. -/
def Conn (links : List LinkM) (a b : Int) : Prop := ∀ S : Int → Prop, S a → (∀ x y, S x → Adj links x y → S y) → S b
theorem Conn.refl {links : List LinkM} {a : Int} : Conn links a a := fun _ h _ => h
theorem Conn.step {links : List LinkM} {a b c : Int} (h : Conn links a b) (k : Adj links b c) : Conn links a c := fun S h1 h2 => h2 b c (h S h1 h2) k
theorem nextOf_iff {l : LinkM} {a b : Int} : nextOf l a = some b ↔ (l.p = a ∧ l.q = b) ∨ (l.p = b ∧ l.q = a) := by
  unfold nextOf
  constructor
  · intro h
    split at h
    · next h1 => exact .inl ⟨h1, Option.some.inj h⟩
    · split at h
      · next h2 => exact .inr ⟨Option.some.inj h, h2⟩
      · cases h
  · rintro (⟨h1, h2⟩ | ⟨h1, h2⟩)
    · rw [if_pos h1, h2]
    · by_cases hc : l.p = a
      · rw [if_pos hc, h2, ← h1, hc]
      · rw [if_neg hc, if_pos h2, h1]
theorem Adj.symm {links : List LinkM} {a b : Int} (h : Adj links a b) : Adj links b a := by
  obtain ⟨l, hl, h⟩ := h
  exact ⟨l, hl, nextOf_iff.2 (nextOf_iff.1 h).symm⟩
theorem Conn.trans {links : List LinkM} {a b c : Int} (h : Conn links a b) (k : Conn links b c) : Conn links a c := by
  exact k (fun c => Conn links a c) h (fun _ _ hx hxy => hx.step hxy)
theorem Conn.symm {links : List LinkM} {a b : Int} (h : Conn links a b) : Conn links b a := by
  exact h (fun c => Conn links c a) .refl (fun _ _ hx hxy => (Conn.step .refl hxy.symm).trans hx)
theorem onw_mem {links : List LinkM} {u : Int} {x : LinkM × Int} : x ∈ onw links u → x.1 ∈ links ∧ nextOf x.1 u = some x.2 := by
  induction links with
  | nil => intro h; cases h
  | cons l r ih =>
    intro h
    rw [onw] at h
    cases hn : nextOf l u with
    | none =>
      rw [hn] at h
      exact ⟨by simp [(ih h).1], (ih h).2⟩
    | some v =>
      rw [hn] at h
      rcases List.mem_cons.1 h with rfl | h
      · exact ⟨by simp, hn⟩
      · exact ⟨by simp [(ih h).1], (ih h).2⟩
theorem mem_onw {links : List LinkM} {u : Int} {l : LinkM} {v : Int} (hl : l ∈ links) (h : nextOf l u = some v) : (l, v) ∈ onw links u := by
  induction links with
  | nil => cases hl
  | cons x r ih =>
    rw [onw]
    rcases List.mem_cons.1 hl with rfl | hl
    · rw [h]; simp
    · cases hn : nextOf x u with
      | none => exact ih hl
      | some y => simp [ih hl]
theorem getD_set (D : List Int) (j k : Nat) (x : Int) (hj : j < D.length) : (D.set j x).getD k 0 = if j = k then x else D.getD k 0 := by
  rw [List.getD_eq_getElem?_getD, List.getElem?_set, List.getD_eq_getElem?_getD]
  by_cases h : j = k
  · subst h
    rw [if_pos rfl, if_pos hj, if_pos rfl]
    rfl
  · rw [if_neg h, if_neg h]
/-- What the search knows. -/
structure Seen (n : Nat) (links : List LinkM) (b : Int) (s : Reach2) : Prop where
  good : Good n s
  inn : ∀ j : Nat, j < n → (s.1.getD j 0 ≠ -1 ↔ (j : Int) ∈ s.2)
  conn : ∀ v ∈ s.2, Conn links b v
  pred : ∀ j : Nat, j < n → s.1.getD j 0 ≠ -1 → ((j : Int) = b ∧ s.1.getD j 0 = 0) ∨ ∃ u : Nat, u < n ∧ Adj links u j ∧ s.1.getD u 0 ≠ -1 ∧ s.1.getD j 0 = s.1.getD u 0 + 1
theorem Seen.visit {n : Nat} {links : List LinkM} {b : Int} {s : Reach2} (h : Seen n links b s) {u v : Nat} (hu : u < n) (hv : v < n) (hus : (u : Int) ∈ s.2) (ha : Adj links u v) : Seen n links b (Bar.visit (u : Int) s (v : Int)) := by
  have hg := h.good.visit (u := (u : Int)) (v := (v : Int)) (by omega) (by omega)
  unfold Bar.visit at hg ⊢
  rw [Int.toNat_natCast, Int.toNat_natCast] at hg ⊢
  split at hg
  · next hc =>
    rw [if_pos hc]
    have hvl : v < s.1.length := by rw [h.good.len]; exact hv
    have hun : s.1.getD u 0 ≠ -1 := (h.inn u hu).2 hus
    have hul := h.good.low _ (getD_in (D := s.1) (j := u) (by rw [h.good.len]; exact hu)).2
    have huv : v ≠ u := fun e => hun (by rw [← e]; exact hc)
    refine ⟨hg, fun j hj => ?_, fun x hx => ?_, fun j hj hjn => ?_⟩
    · rw [getD_set _ _ _ _ hvl]
      by_cases e : v = j
      · subst e
        rw [if_pos rfl]
        exact ⟨fun _ => by simp, fun _ => by omega⟩
      · rw [if_neg e, h.inn j hj]
        constructor
        · intro h1; simp [h1]
        · intro h1
          rcases List.mem_append.1 h1 with h1 | h1
          · exact h1
          · have := List.mem_singleton.1 h1; omega
    · rcases List.mem_append.1 hx with hx | hx
      · exact h.conn x hx
      · rw [List.mem_singleton.1 hx]
        exact (h.conn _ hus).step ha
    · have hs : ∀ k, v ≠ k → (s.1.set v (s.1.getD u 0 + 1)).getD k 0 = s.1.getD k 0 := fun k hk => by rw [getD_set _ _ _ _ hvl, if_neg hk]
      by_cases e : v = j
      · subst e
        refine .inr ⟨u, hu, ha, ?_, ?_⟩
        · rw [hs u huv]; exact hun
        · rw [hs u huv, getD_set _ _ _ _ hvl, if_pos rfl]
      · rw [hs j e] at hjn ⊢
        rcases h.pred j hj hjn with h1 | ⟨u', h1, h2, h3, h4⟩
        · exact .inl h1
        · have : v ≠ u' := fun e => h3 (by rw [← e]; exact hc)
          exact .inr ⟨u', h1, h2, by rw [hs u' this]; exact h3, by rw [hs u' this]; exact h4⟩
  · next hc =>
    rw [if_neg hc]
    exact h
theorem visit_has {n : Nat} {links : List LinkM} {b : Int} {s : Reach2} (h : Seen n links b s) {u : Int} {v : Nat} (hv : v < n) : (v : Int) ∈ (Bar.visit u s (v : Int)).2 := by
  unfold Bar.visit
  rw [Int.toNat_natCast]
  split
  · simp
  · next hc => exact (h.inn v hv).1 hc
theorem fold_pre (u : Int) : ∀ (xs : List (LinkM × Int)) (s : Reach2), ∃ ext, (xs.foldl (fun s x => Bar.visit u s x.2) s).2 = s.2 ++ ext
  | [], s => ⟨[], by simp⟩
  | x :: r, s => by
    obtain ⟨e1, h1⟩ := fold_pre u r (Bar.visit u s x.2)
    obtain ⟨e2, h2⟩ := visit_prefix u s x.2
    exact ⟨e2 ++ e1, by rw [List.foldl_cons, h1, h2, List.append_assoc]⟩
theorem Seen.fold {n : Nat} {links : List LinkM} {b : Int} (he : Ends n links) {u : Nat} (hu : u < n) : ∀ (xs : List (LinkM × Int)) {s : Reach2}, Seen n links b s → (u : Int) ∈ s.2 → (∀ x ∈ xs, Adj links u x.2 ∧ 0 ≤ x.2 ∧ x.2 < n) →
    Seen n links b (xs.foldl (fun s x => Bar.visit u s x.2) s) ∧ ∀ x ∈ xs, x.2 ∈ (xs.foldl (fun s x => Bar.visit u s x.2) s).2
  | [], _, h, _, _ => ⟨h, fun x hx => by cases hx⟩
  | x :: r, s, h, hus, hx => by
    obtain ⟨ha, h0, h1⟩ := hx x (by simp)
    obtain ⟨v, hv⟩ := Int.eq_ofNat_of_zero_le h0
    have hvn : v < n := by omega
    rw [List.foldl_cons, hv]
    have hs := h.visit hu hvn hus (by rw [← hv]; exact ha)
    obtain ⟨e, hp⟩ := visit_prefix (u : Int) s (v : Int)
    obtain ⟨i1, i2⟩ := Seen.fold he hu r hs (by rw [hp]; simp [hus]) (fun y hy => hx y (by simp [hy]))
    refine ⟨i1, fun y hy => ?_⟩
    rcases List.mem_cons.1 hy with rfl | hy
    · obtain ⟨e2, hp2⟩ := fold_pre (u : Int) r (Bar.visit u s (v : Int))
      rw [hp2, hv]
      exact List.mem_append_left _ (visit_has h hvn)
    · exact i2 y hy
/-- The first i are done: whatever is next to them is known. -/
def DoneTo (links : List LinkM) (s : Reach2) (i : Nat) : Prop := ∀ j, j < i → j < s.2.length → ∀ v, Adj links (s.2.getD j 0) v → v ∈ s.2
theorem bfs_seen {n : Nat} {links : List LinkM} {b : Int} (he : Ends n links) : ∀ (f i : Nat) (s : Reach2), Seen n links b s → DoneTo links s i → f + i = n + 1 → Seen n links b (bfs links f i s) ∧ DoneTo links (bfs links f i s) (n + 1)
  | 0, i, s, h, hd, hf => ⟨h, by rw [show n + 1 = i by omega]; exact hd⟩
  | f + 1, i, s, h, hd, hf => by
    rw [bfs]
    split
    · next hlt =>
      obtain ⟨m0, m1⟩ := h.good.mem _ (getD_in hlt).2
      obtain ⟨u, hu⟩ := Int.eq_ofNat_of_zero_le m0
      have hun : u < n := by omega
      have hum : (u : Int) ∈ s.2 := by rw [← hu]; exact (getD_in hlt).2
      have hx : ∀ x ∈ onw links u, Adj links u x.2 ∧ 0 ≤ x.2 ∧ x.2 < n := fun x hx => ⟨⟨x.1, (onw_mem hx).1, (onw_mem hx).2⟩, onw_ends he x hx⟩
      obtain ⟨h1, h2⟩ := Seen.fold he hun (onw links u) h hum hx
      obtain ⟨ext, hp⟩ := fold_pre (u : Int) (onw links u) s
      refine bfs_seen he f (i + 1) _ (by rw [hu]; exact h1) ?_ (by omega)
      rw [hu]
      intro j hj hjl v hv
      show v ∈ ((onw links u).foldl (fun s x => Bar.visit u s x.2) s).2
      have hg : j < s.2.length → (roundB links (u : Int) s).2.getD j 0 = s.2.getD j 0 := fun h9 => by
        show ((onw links u).foldl (fun s x => Bar.visit u s x.2) s).2.getD j 0 = _
        rw [hp, List.getD_eq_getElem?_getD, List.getElem?_append_left h9, ← List.getD_eq_getElem?_getD]
      by_cases e : j = i
      · subst e
        rw [hg hlt, hu] at hv
        obtain ⟨l, hl, hn⟩ := hv
        exact h2 (l, v) (mem_onw hl hn)
      · rw [hg (by omega)] at hv
        rw [hp]
        exact List.mem_append_left _ (hd j (by omega) (by omega) v hv)
    · next hlt =>
      exact ⟨h, fun j _ hj v hv => hd j (by omega) hj v hv⟩
theorem Seen.start {n : Nat} {links : List LinkM} {b : Nat} (hb : b < n) : Seen n links b (start n (b : Int)) := by
  have hl : b < (List.replicate n (-1 : Int)).length := by simpa using hb
  have hg : ∀ j, j < n → ((List.replicate n (-1 : Int)).set b 0).getD j 0 = if b = j then 0 else -1 := fun j hj => by
    rw [getD_set _ _ _ _ hl]
    by_cases e : b = j
    · rw [if_pos e, if_pos e]
    · rw [if_neg e, if_neg e, List.getD_eq_getElem?_getD, List.getElem?_replicate, if_pos hj]
      rfl
  refine ⟨Good.start (by omega), fun j hj => ?_, fun v hv => ?_, fun j hj hjn => ?_⟩
  · show ((List.replicate n (-1 : Int)).set (b : Int).toNat 0).getD j 0 ≠ -1 ↔ (j : Int) ∈ [(b : Int)]
    rw [Int.toNat_natCast, hg j hj, List.mem_singleton]
    by_cases e : b = j
    · rw [if_pos e]; omega
    · rw [if_neg e]; omega
  · rw [List.mem_singleton.1 hv]; exact .refl
  · have h1 : ((List.replicate n (-1 : Int)).set (b : Int).toNat 0).getD j 0 ≠ -1 := hjn
    refine .inl ?_
    show (j : Int) = b ∧ ((List.replicate n (-1 : Int)).set (b : Int).toNat 0).getD j 0 = 0
    rw [Int.toNat_natCast, hg j hj] at h1 ⊢
    by_cases e : b = j
    · rw [if_pos e]; omega
    · rw [if_neg e] at h1; omega
theorem bfs_pre {links : List LinkM} : ∀ (f i : Nat) (s : Reach2), ∃ ext, (bfs links f i s).2 = s.2 ++ ext
  | 0, _, s => ⟨[], by simp [bfs]⟩
  | f + 1, i, s => by
    rw [bfs]
    split
    · obtain ⟨e1, h1⟩ := bfs_pre f (i + 1) (roundB links (s.2.getD i 0) s)
      obtain ⟨e2, h2⟩ := fold_pre (s.2.getD i 0) (onw links (s.2.getD i 0)) s
      exact ⟨e2 ++ e1, by rw [h1, roundB, h2, List.append_assoc]⟩
    · exact ⟨[], by simp⟩
/-- The search reaches what is joined, and nothing else; each is next to one that is nearer. -/
theorem far_spec {n : Nat} {links : List LinkM} (he : Ends n links) {b : Nat} (hb : b < n) :
    (∀ j : Nat, j < n → ((farL n links b).getD j 0 ≠ -1 ↔ Conn links b j)) ∧ (∀ j : Nat, j < n → -1 ≤ (farL n links b).getD j 0 ∧ (farL n links b).getD j 0 < n) ∧
    (∀ j : Nat, j < n → (farL n links b).getD j 0 ≠ -1 → ((j : Int) = b ∧ (farL n links b).getD j 0 = 0) ∨ ∃ u : Nat, u < n ∧ Adj links u j ∧ (farL n links b).getD u 0 ≠ -1 ∧ (farL n links b).getD j 0 = (farL n links b).getD u 0 + 1) := by
  obtain ⟨hs, hd⟩ := bfs_seen he (n + 1) 0 _ (Seen.start (links := links) hb) (fun j hj => by omega) rfl
  have hall : ∀ v, Conn links b v → v ∈ (bfs links (n + 1) 0 (start n (b : Int))).2 := fun v hv => by
    refine hv (fun v => v ∈ (bfs links (n + 1) 0 (start n (b : Int))).2) ?_ (fun x y ih h2 => ?_)
    · obtain ⟨ext, hp⟩ := bfs_pre (links := links) (n + 1) 0 (start n (b : Int))
      rw [hp]
      exact List.mem_append_left _ (by simp [Bar.start])
    · obtain ⟨j, hj, hje⟩ := List.getElem_of_mem ih
      refine hd j (by have := hs.good.le; omega) hj _ ?_
      rw [List.getD_eq_getElem?_getD, List.getElem?_eq_getElem hj, hje]
      exact h2
  refine ⟨fun j hj => ?_, fun j hj => ?_, hs.pred⟩
  · rw [show ((farL n links b).getD j 0 ≠ -1 ↔ Conn links b j) = ((bfs links (n + 1) 0 (start n (b : Int))).1.getD j 0 ≠ -1 ↔ Conn links b j) from rfl, hs.inn j hj]
    exact ⟨fun h => hs.conn _ h, fun h => hall _ h⟩
  · have h1 := hs.good.low _ (getD_in (D := (bfs links (n + 1) 0 (start n (b : Int))).1) (j := j) (by rw [hs.good.len]; exact hj)).2
    have h2 := hs.good.le
    refine ⟨h1.1, ?_⟩
    have := h1.2
    show (bfs links (n + 1) 0 (start n (b : Int))).1.getD j 0 < _
    omega
end Go.Proofs.YtpbalclhdhjnoaaGreatDoor.Bar

namespace Go.Proofs.YtpbalclhdhjnoaaGreatDoor.Bar

def pr (l : LinkM) : Nat × Nat := (l.p.toNat, l.q.toNat)
end Go.Proofs.YtpbalclhdhjnoaaGreatDoor.Bar
